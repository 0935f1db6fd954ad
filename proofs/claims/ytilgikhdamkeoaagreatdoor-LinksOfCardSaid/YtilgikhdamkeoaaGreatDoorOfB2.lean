/-
  Several texts in one: KLeadAll, KEnds, KCheck, KSaid, VRefCut, VGives, KLink, KRefLink, KRefOf, KBoth, KRefLead, KRefCheck, KOf, VTwin, LSameSums, KOfLaw, KLaid, KLaidZ.
-/
import Derived.Test.YtilgikhdamkeoaaGreatDoorOfB1
import Derived.Laws.EntriesVeiled
import Derived.Test.YtilgikhdamkeoaaGreatDoorVRefB
import Derived.Test.YtilgikhdamkeoaaGreatDoorVSApp
import Derived.Deep.QuietTactic
import Derived.BigQuiet
import Derived.Test.YtilgikhdamkeoaaGreatDoorLSum
import Derived.Test.YtilgikhdamkeoaaGreatDoorLSums
import Derived.Test.YtilgikhdamkeoaaGreatDoorShaLaid
import Derived.LaidSub
import Derived.Stop.LaidErr
import Derived.Stop.LaidTwo
/-
  links.ends' closure that leads, whole: all sums that it takes are there, or one is missing.
-/
namespace Go.Proofs.YtilgikhdamkeoaaGreatDoor
open Go.RowKit

section
variable {B : World} {ab lb nb gb n : Nat} {ys a : List Nat} {E : Addr}

theorem linkF_len (hlen : ys.length = 32 * n) (hal : a.length = 32) {size from_ j : Nat} {edge : Bool} (hh : j + ldep from_ size edge ≤ n) : (linkF (nth ys) a from_ size edge j).1.length = 32 ∧ (linkF (nth ys) a from_ size edge j).2.length = 32 :=
  linkF_of (P := fun l => l.length = 32) sha_length (nth ys) a hal size from_ edge j fun k hk => nth_length hlen (by omega)
theorem linkF_lt (hy : ∀ x ∈ ys, x < 256) (hab : ∀ x ∈ a, x < 256) (size from_ j : Nat) (edge : Bool) : (∀ x ∈ (linkF (nth ys) a from_ size edge j).1, x < 256) ∧ ∀ x ∈ (linkF (nth ys) a from_ size edge j).2, x < 256 :=
  linkF_of (P := fun l => ∀ x ∈ l, x < 256) sha_lt (nth ys) a hab size from_ edge j fun _ _ => nth_lt hy _

/-- What lead is asked, and what it answers. -/
def KCall (B : World) (ab lb nb gb n : Nat) (ys a : List Nat) (from_ size : Nat) (edge : Bool) (j : Nat) (P Q : List Nat) (ev : Value) (j' : Nat) : Prop :=
  ∀ (A : Option Addr) (c : Nat) (w : World), KIn B w ab lb nb gb n j A c ys a →
    Calls Tryz.prog 51 #[.int .u64 (from_ : Int), .int .u64 (size : Int), .bool edge, .pointer (some ⟨ab, 0, none⟩), .pointer (some ⟨nb, 0, none⟩), .pointer (some ⟨gb, 0, none⟩)] w (Led B w ab lb nb gb n ys a P Q ev j')

theorem klead_any (hn : n ≤ 1000000) (hy : ∀ x ∈ ys, x < 256) (hlen : ys.length = 32 * n) (hal : a.length = 32) (hab : ∀ x ∈ a, x < 256) (hk : Knows B) (hs : Starts B) (hm : Miss B E) :
    ∀ (size from_ j : Nat) (edge : Bool), 1 ≤ from_ → from_ ≤ size → size < 18446744073709551616 → j ≤ n →
      (j + ldep from_ size edge ≤ n → KCall B ab lb nb gb n ys a from_ size edge j (linkF (nth ys) a from_ size edge j).1 (linkF (nth ys) a from_ size edge j).2 .nilIface (j + ldep from_ size edge)) ∧
      (n < j + ldep from_ size edge → ∃ (P Q : List Nat) (j' : Nat), P.length = 32 ∧ Q.length = 32 ∧ KCall B ab lb nb gb n ys a from_ size edge j P Q (missV E) j') := by
  intro size
  induction size using Nat.strongRecOn with
  | ind size ih =>
    intro from_ j edge h1 hfs hz hj
    by_cases h2 : size < 2 ∨ from_ = size
    · obtain rfl : from_ = size := by omega
      rw [ldep_all h2, linkF_all _ _ h2]
      cases edge with
      | true =>
        refine ⟨fun _ A c w h => ?_, fun hh => ?_⟩
        · exact klead_edge h hal rfl
        · simp at hh; omega
      | false =>
        have hroot : KCall B ab lb nb gb n ys a from_ from_ false j (nxS ys n j) (nxS ys n j) (nxV E n j) (nxJ n j) := fun A c w h => klead_root h (nxS_length hlen j) rfl fun w' h' => knext_any h' hn hm
        refine ⟨fun hh => ?_, fun hh => ?_⟩
        · have hlt : j < n := by simp at hh; omega
          unfold nxS nxV nxJ at hroot
          rw [if_pos hlt, if_pos hlt, if_pos hlt] at hroot
          exact hroot
        · have hlt : ¬ j < n := by simp at hh; omega
          unfold nxV at hroot
          rw [if_neg hlt] at hroot
          exact ⟨_, _, _, nxS_length hlen j, nxS_length hlen j, hroot⟩
    · have hcl := cutN_lt (m := size) (by omega)
      have hcp := cutN_pos size
      by_cases ha : from_ ≤ cutN size
      · rw [ldep_low h2 ha, linkF_low _ _ h2 ha, ← Nat.add_assoc]
        have IH := ih (cutN size) hcl from_ j edge h1 ha (by omega) hj
        by_cases hd : j + ldep from_ (cutN size) edge ≤ n
        · have L := linkF_len (a := a) hlen hal hd
          have Lb := linkF_lt hy hab (cutN size) from_ j edge
          have hgo : KCall B ab lb nb gb n ys a from_ size edge j (linkF (nth ys) a from_ (cutN size) edge j).1 (nodeL (linkF (nth ys) a from_ (cutN size) edge j).2 (nxS ys n (j + ldep from_ (cutN size) edge))) (nxV E n (j + ldep from_ (cutN size) edge)) (nxJ n (j + ldep from_ (cutN size) edge)) :=
            fun A c w h => klead_low_go h L.1 L.2 (by omega) hz (by omega) ha (fun w' h' => IH.1 hd A c w' h') (fun w' A' c' h' => knext_any h' hn hm) (nxS_length hlen _) (nxS_lt hy n _) Lb.2 hk hs
          refine ⟨fun hh => ?_, fun hh => ?_⟩
          · have hlt : j + ldep from_ (cutN size) edge < n := by omega
            unfold nxS nxV nxJ at hgo
            rw [if_pos hlt, if_pos hlt, if_pos hlt] at hgo
            exact hgo
          · have hlt : ¬ j + ldep from_ (cutN size) edge < n := by omega
            unfold nxV at hgo
            rw [if_neg hlt] at hgo
            exact ⟨_, _, _, L.1, nodeL_length _ _, hgo⟩
        · obtain ⟨P, Q, j', hP, hQ, hc⟩ := IH.2 (by omega)
          refine ⟨fun hh => by omega, fun _ => ⟨P, Q, j', hP, hQ, fun A c w h => ?_⟩⟩
          exact klead_low_fall h hP hQ (by omega) hz (by omega) ha (fun w' h' => hc A c w' h')
      · rw [ldep_high h2 ha, linkF_high _ _ h2 ha, ← Nat.add_assoc]
        have IH := ih (size - cutN size) (by omega) (from_ - cutN size) j false (by omega) (by omega) (by omega) hj
        by_cases hd : j + ldep (from_ - cutN size) (size - cutN size) false ≤ n
        · have L := linkF_len (a := a) hlen hal hd
          have Lb := linkF_lt hy hab (size - cutN size) (from_ - cutN size) j false
          have hgo : KCall B ab lb nb gb n ys a from_ size edge j (nodeL (nxS ys n (j + ldep (from_ - cutN size) (size - cutN size) false)) (linkF (nth ys) a (from_ - cutN size) (size - cutN size) false j).1) (nodeL (nxS ys n (j + ldep (from_ - cutN size) (size - cutN size) false)) (linkF (nth ys) a (from_ - cutN size) (size - cutN size) false j).2) (nxV E n (j + ldep (from_ - cutN size) (size - cutN size) false)) (nxJ n (j + ldep (from_ - cutN size) (size - cutN size) false)) :=
            fun A c w h => klead_high_go h L.1 L.2 (by omega) hz (by omega) ha (fun w' h' => IH.1 hd A c w' h') (fun w' A' c' h' => knext_any h' hn hm) (nxS_length hlen _) (nxS_lt hy n _) Lb.1 Lb.2 hk hs
          refine ⟨fun hh => ?_, fun hh => ?_⟩
          · have hlt : j + ldep (from_ - cutN size) (size - cutN size) false < n := by omega
            unfold nxS nxV nxJ at hgo
            rw [if_pos hlt, if_pos hlt, if_pos hlt] at hgo
            exact hgo
          · have hlt : ¬ j + ldep (from_ - cutN size) (size - cutN size) false < n := by omega
            unfold nxV at hgo
            rw [if_neg hlt] at hgo
            exact ⟨_, _, _, nodeL_length _ _, nodeL_length _ _, hgo⟩
        · obtain ⟨P, Q, j', hP, hQ, hc⟩ := IH.2 (by omega)
          refine ⟨fun hh => by omega, fun _ => ⟨P, Q, j', hP, hQ, fun A c w h => ?_⟩⟩
          exact klead_high_fall h hP hQ (by omega) hz (by omega) ha (fun w' h' => hc A c w' h')
end

end Go.Proofs.YtilgikhdamkeoaaGreatDoor

/-
  links.ends: what a link leads to, how many of its sums are not taken, and whether one is missing.
-/
namespace Go.Proofs.YtilgikhdamkeoaaGreatDoor
open Go.RowKit

/-- Three results, of which the first lies in memory. -/
theorem results_cell_tmp2 {P : Program} {fn : Func} {p q r : Tmp} {ty : TypeId} (h : fn.results = #[.cell p ty, .tmp q, .tmp r]) (tmps : Array Value) (w : World) (ad : Addr) (v : Value)
    (hp : tmps.getD p undef = .pointer (some ad)) (hl : (loadVar ty ad).run P w = .ok v w) : (results fn tmps).run P w = .ok (.tuple #[v, tmps.getD q undef, tmps.getD r undef]) w := by
  have hp' : tmps[p]?.getD undef = .pointer (some ad) := by simpa using hp
  simp [results, h, hp', asAddr, hl]

/-- The world in which ends calls lead. -/
structure KEndsIn (w w1 : World) (a : List Nat) (A : Option Addr) (n c g : Nat) : Prop where
  sum : BArr w1 g 25 a
  link : VarAt w1 (g + 1) 22 (.slice A n c)
  res : BArr w1 (g + 2) 49 zero64
  nxt : VarAt w1 (g + 3) 62 (takesK (g + 1))
  led : VarAt w1 (g + 4) 63 (leadsK g (g + 3) (g + 4))
  below : Below w.heap.size w w1
  size : w1.heap.size = g + 5
theorem kendsIn_of (w : World) (a : List Nat) (A : Option Addr) (n c g : Nat) (hg : w.heap.size = g) :
    KEndsIn w (((((w.alloc (.cells (bvs a).toArray 25)).alloc (.cells #[.slice A n c] 22)).alloc (.cells (bvs zero64).toArray 49)).alloc (.cells #[takesK (g + 1)] 62)).alloc (.cells #[leadsK g (g + 3) (g + 4)] 63)) a A n c g := by
  have h0 := BArr.new w 25 a
  obtain ⟨w0, e0⟩ : ∃ w0, w0 = w.alloc (.cells (bvs a).toArray 25) := ⟨_, rfl⟩
  have b0 := below_alloc w (.cells (bvs a).toArray 25)
  have s0 : w0.heap.size = g + 1 := by rw [e0]; simp [hg]
  rw [← e0] at h0 b0 ⊢
  have h1 := VarAt.new w0 22 (.slice A n c)
  obtain ⟨w1, e1⟩ : ∃ w1, w1 = w0.alloc (.cells #[.slice A n c] 22) := ⟨_, rfl⟩
  have b1 := below_alloc w0 (.cells #[.slice A n c] 22)
  have s1 : w1.heap.size = g + 2 := by rw [e1]; simp [s0]
  rw [← e1] at h1 b1 ⊢
  have h2 := BArr.new w1 49 zero64
  obtain ⟨w2, e2⟩ : ∃ w2, w2 = w1.alloc (.cells (bvs zero64).toArray 49) := ⟨_, rfl⟩
  have b2 := below_alloc w1 (.cells (bvs zero64).toArray 49)
  have s2 : w2.heap.size = g + 3 := by rw [e2]; simp [s1]
  rw [← e2] at h2 b2 ⊢
  have h3 := VarAt.new w2 62 (takesK (g + 1))
  obtain ⟨w3, e3⟩ : ∃ w3, w3 = w2.alloc (.cells #[takesK (g + 1)] 62) := ⟨_, rfl⟩
  have b3 := below_alloc w2 (.cells #[takesK (g + 1)] 62)
  have s3 : w3.heap.size = g + 4 := by rw [e3]; simp [s2]
  rw [← e3] at h3 b3 ⊢
  have h4 := VarAt.new w3 63 (leadsK g (g + 3) (g + 4))
  have b4 := below_alloc w3 (.cells #[leadsK g (g + 3) (g + 4)] 63)
  rw [hg] at h0
  rw [s0] at h1
  rw [s1] at h2
  rw [s2] at h3
  rw [s3] at h4
  exact ⟨(((h0.below b1).below b2).below b3).below b4, ((h1.below b2).below b3).below b4, (h2.below b3).below b4, h3.below b4, h4,
    below_on (below_on (below_on (below_on b0 (Nat.le_refl _) b1) (Nat.le_refl _) b2) (Nat.le_refl _) b3) (Nat.le_refl _) b4, by simp [s3]⟩

section
variable {w : World} {n c : Nat} {A : Option Addr} {ys a : List Nat} {E : Addr} {from_ size : Nat}

set_option maxRecDepth 100000 in
set_option maxHeartbeats 4000000 in
theorem kends_at {P Q : List Nat} {ev : Value} {j' g m : Nat} (hm : n - j' = m) (hg : w.heap.size = g) (hin : InS w A n ys) (hc : n ≤ c) (hPl : P.length = 32) (hQl : Q.length = 32)
    (cl : KCall w g (g + 1) (g + 3) (g + 4) n ys a from_ size true 0 P Q ev j') :
    Calls Tryz.prog 15 #[.int .u64 (from_ : Int), .int .u64 (size : Int), sv a, .slice A n c] w fun e w' => e = .returned (.tuple #[sv (P ++ Q), .int .i64 (m : Int), ev]) ∧ Below w.heap.size w w' := by
  have HM := Lib.hid hm
  have e0 : (bvs zero64).toArray = #[.int .u8 0, .int .u8 0, .int .u8 0, .int .u8 0, .int .u8 0, .int .u8 0, .int .u8 0, .int .u8 0, .int .u8 0, .int .u8 0, .int .u8 0, .int .u8 0, .int .u8 0, .int .u8 0, .int .u8 0, .int .u8 0, .int .u8 0, .int .u8 0, .int .u8 0, .int .u8 0, .int .u8 0, .int .u8 0, .int .u8 0, .int .u8 0, .int .u8 0, .int .u8 0, .int .u8 0, .int .u8 0, .int .u8 0, .int .u8 0, .int .u8 0, .int .u8 0, .int .u8 0, .int .u8 0, .int .u8 0, .int .u8 0, .int .u8 0, .int .u8 0, .int .u8 0, .int .u8 0, .int .u8 0, .int .u8 0, .int .u8 0, .int .u8 0, .int .u8 0, .int .u8 0, .int .u8 0, .int .u8 0, .int .u8 0, .int .u8 0, .int .u8 0, .int .u8 0, .int .u8 0, .int .u8 0, .int .u8 0, .int .u8 0, .int .u8 0, .int .u8 0, .int .u8 0, .int .u8 0, .int .u8 0, .int .u8 0, .int .u8 0, .int .u8 0] := rfl
  have h1 := kendsIn_of w a A n c g hg
  rw [e0] at h1
  clear e0
  have hmf : ∀ (fn : Fn) (first cap : Array Value) (w : World), (Instr.makeFunc fn first cap).run Tryz.prog w = .ok (.func fn first cap) w := fun _ _ _ _ => rfl
  unfold takesK leadsK at h1
  obtain ⟨w1, hw1⟩ : ∃ w1, w1 = ((((w.alloc (.cells (bvs a).toArray 25)).alloc (.cells #[.slice A n c] 22)).alloc (.cells #[.int .u8 0, .int .u8 0, .int .u8 0, .int .u8 0, .int .u8 0, .int .u8 0, .int .u8 0, .int .u8 0, .int .u8 0, .int .u8 0, .int .u8 0, .int .u8 0, .int .u8 0, .int .u8 0, .int .u8 0, .int .u8 0, .int .u8 0, .int .u8 0, .int .u8 0, .int .u8 0, .int .u8 0, .int .u8 0, .int .u8 0, .int .u8 0, .int .u8 0, .int .u8 0, .int .u8 0, .int .u8 0, .int .u8 0, .int .u8 0, .int .u8 0, .int .u8 0, .int .u8 0, .int .u8 0, .int .u8 0, .int .u8 0, .int .u8 0, .int .u8 0, .int .u8 0, .int .u8 0, .int .u8 0, .int .u8 0, .int .u8 0, .int .u8 0, .int .u8 0, .int .u8 0, .int .u8 0, .int .u8 0, .int .u8 0, .int .u8 0, .int .u8 0, .int .u8 0, .int .u8 0, .int .u8 0, .int .u8 0, .int .u8 0, .int .u8 0, .int .u8 0, .int .u8 0, .int .u8 0, .int .u8 0, .int .u8 0, .int .u8 0, .int .u8 0] 49)).alloc (.cells #[.func (.func 50) #[] #[.pointer (some ⟨g + 1, 0, none⟩)]] 62)).alloc (.cells #[.func (.func 51) #[] #[.pointer (some ⟨g, 0, none⟩), .pointer (some ⟨g + 3, 0, none⟩), .pointer (some ⟨g + 4, 0, none⟩)]] 63) := ⟨_, rfl⟩
  rw [← hw1] at h1
  have k1 : KIn w w1 g (g + 1) (g + 3) (g + 4) n 0 A c ys a := ⟨h1.link, hin, hc, Nat.zero_le _, h1.sum, h1.nxt, h1.led, h1.below, by omega, ⟨by omega, by omega, by omega⟩⟩
  have CL := Lib.hid (cl A c w1 k1)
  have H1 := Lib.hid h1
  have HW := Lib.hid hw1
  have HG := Lib.hid hg
  have l1 := h1.led.cell
  have hPQ : (P ++ Q).length = 64 := by rw [List.length_append]; omega
  have HZ := Lib.hid (show zero64.length = 64 from rfl)
  clear h1 hw1 k1 cl hin hc hm
  unfold sv
  go_enter Tryz.func15, Tryz.ntmps15
  go_upto_region 4 with fail
  rw [show g + 1 + 1 = g + 2 from rfl, show g + 2 + 1 = g + 3 from rfl, show g + 3 + 1 = g + 4 from rfl]
  rw [← HW.out]
  clear hg
  unfold leadsK at l1
  go_wp2_with fail
  refine CL.out.mono ?_
  rintro e w2 ⟨rfl, ⟨A2, c2, hk2⟩, hb2⟩
  have v2 := hk2.var
  rw [HM.out] at v2
  have r2 : BArr w2 (g + 2) 49 zero64 := (hb2.block _ H1.out.res.lt (by omega)).trans H1.out.res
  have B2 := Lib.hid (H1.out.below.trans (hb2.below (by have := H1.out.size; have := HG.out; omega) (fun b e => by have := HG.out; omega)))
  have V2 := Lib.hid v2
  clear hk2 hb2 v2
  go_upto_region 5 with (with_reducible refine wpList_store_pair rfl (.tmp 8) (.tmp 20) rfl (g + 2) rfl zero64 (P ++ Q) HZ.out hPQ r2 rfl ?_)
  have r3 : BArr (w2.setRow (g + 2) (bvs (P ++ Q)).toArray) (g + 2) 49 (P ++ Q) := r2.setRow _
  have v3 := V2.out.setRow_other (g + 2) (by omega) (bvs (P ++ Q)).toArray
  have b3 : Below w.heap.size w (w2.setRow (g + 2) (bvs (P ++ Q)).toArray) := below_setRow B2.out (by have := HG.out; omega) _
  obtain ⟨w3, hw3⟩ : ∃ w3, w3 = w2.setRow (g + 2) (bvs (P ++ Q)).toArray := ⟨_, rfl⟩
  rw [← hw3] at r3 v3 b3 ⊢
  have B3 := Lib.hid b3
  clear hw3 r2 b3
  have hS : BArr w3.drew (g + 2) 49 (P ++ Q) ∧ VarAt w3.drew (g + 1) 22 (.slice A2 m c2) := ⟨r3, v3⟩
  refine wp_region_held (S := fun W => BArr W (g + 2) 49 (P ++ Q) ∧ VarAt W (g + 1) 22 (.slice A2 m c2)) (by kernel_rfl) ?_
  change wpAnyH _ _ _ _ _ _ _ _ w3.drew
  refine' wpAnyH_take (i := 0) (oi := _) (v := sv (P ++ Q)) ?hi0 (by kernel_rfl) ?hf0 ?hr0 ?hQ0 ?hy0 hS ?rest0
  case hi0 => (simp only [List.getElem?_toArray, List.getElem?_cons_zero]; rfl)
  case hf0 => kernel_rfl
  case hr0 => kernel_rfl
  case hQ0 => exact fun _ _ _ h => h
  case hy0 => exact yields_pair (by rfl) (.tmp 8) (by rfl) _ (by rfl) (P ++ Q) hPQ (fun W hSw => hSw.1.at_)
  try simp only [Act.put, List.setIfInBounds_toArray, List.set_cons_zero, List.set_cons_succ]
  refine' wpAnyH_take (i := 1) (oi := _) (v := _) ?hi1 (by kernel_rfl) ?hf1 ?hr1 ?hQ1 ?hy1 hS ?rest1
  case hi1 => (simp only [List.getElem?_toArray, List.getElem?_cons_zero, List.getElem?_cons_succ]; rfl)
  case hf1 => kernel_rfl
  case hr1 => kernel_rfl
  case hQ1 => exact fun _ _ _ h => h
  case hy1 => refine Or.inl ⟨by rfl, ?_⟩; intro W hSw; have s0 := hSw.2.cell; go_simp; try with_reducible rfl
  try simp only [Act.put, List.setIfInBounds_toArray, List.set_cons_zero, List.set_cons_succ]
  refine' wpAnyH_take (i := 2) (oi := _) (v := _) ?hi2 (by kernel_rfl) ?hf2 ?hr2 ?hQ2 ?hy2 hS ?rest2
  case hi2 => (simp only [List.getElem?_toArray, List.getElem?_cons_zero, List.getElem?_cons_succ]; rfl)
  case hf2 => kernel_rfl
  case hr2 => kernel_rfl
  case hQ2 => exact fun _ _ _ h => h
  case hy2 => refine Or.inl ⟨by rfl, ?_⟩; intro W hSw; have s0 := hSw.2.cell; go_simp; try with_reducible rfl
  try simp only [Act.put, List.setIfInBounds_toArray, List.set_cons_zero, List.set_cons_succ]
  refine' wpAnyH_take (i := 3) (oi := _) (v := _) ?hi3 (by kernel_rfl) ?hf3 ?hr3 ?hQ3 ?hy3 hS ?rest3
  case hi3 => (simp only [List.getElem?_toArray, List.getElem?_cons_zero, List.getElem?_cons_succ]; rfl)
  case hf3 => kernel_rfl
  case hr3 => kernel_rfl
  case hQ3 => exact fun _ _ _ h => h
  case hy3 => refine Or.inl ⟨by rfl, ?_⟩; intro W hSw; have s0 := hSw.2.cell; go_simp; try with_reducible rfl
  try simp only [Act.put, List.setIfInBounds_toArray, List.set_cons_zero, List.set_cons_succ]
  refine wpAnyH_ready (rs := [4]) (by kernel_rfl) (by simp) ?_
  refine' AllReadyH.cons (o := _) ?hin (fun K3 hK3 => ?_) AllReadyH.nil
  case hin => (simp only [List.getElem?_toArray, List.getElem?_cons_zero, List.getElem?_cons_succ]; rfl)
  rw [if_pos (by rfl)]
  refine step_store_pair (.tmp 8) (.tmp 22) rfl (g + 2) rfl (P ++ Q) (P ++ Q) hPQ hPQ hS.1 rfl ?_
  have r5 : BArr (w3.drew.setRow (g + 2) (bvs (P ++ Q)).toArray) (g + 2) 49 (P ++ Q) := hS.1.setRow _
  have b5 : Below w.heap.size w (w3.drew.setRow (g + 2) (bvs (P ++ Q)).toArray) := below_setRow B3.out.drew (by have := HG.out; omega) _
  have hS5 : BArr (w3.drew.setRow (g + 2) (bvs (P ++ Q)).toArray) (g + 2) 49 (P ++ Q) ∧ VarAt (w3.drew.setRow (g + 2) (bvs (P ++ Q)).toArray) (g + 1) 22 (.slice A2 m c2) := ⟨r5, hS.2.setRow_other _ (by omega) _⟩
  obtain ⟨w5, hw5⟩ : ∃ w5, w5 = w3.drew.setRow (g + 2) (bvs (P ++ Q)).toArray := ⟨_, rfl⟩
  rw [← hw5] at r5 b5 hS5 ⊢
  refine hK3.out _ _ hS5 (fun _ => ?_)
  clear hK3 K3 hw5
  refine' wpAnyH_take (i := 5) (oi := _) (v := _) ?hi5 (by kernel_rfl) ?hf5 ?hr5 ?hQ5 ?hy5 hS5 ?rest5
  case hi5 => (simp only [List.getElem?_toArray, List.getElem?_cons_zero, List.getElem?_cons_succ]; rfl)
  case hf5 => kernel_rfl
  case hr5 => kernel_rfl
  case hQ5 => exact fun _ _ _ h => h
  case hy5 => refine Or.inl ⟨by rfl, ?_⟩; intro W hSw; have s0 := hSw.2.cell; go_simp; try with_reducible rfl
  try simp only [Act.put, List.setIfInBounds_toArray, List.set_cons_zero, List.set_cons_succ]
  refine' wpAnyH_take (i := 6) (oi := _) (v := _) ?hi6 (by kernel_rfl) ?hf6 ?hr6 ?hQ6 ?hy6 hS5 ?rest6
  case hi6 => (simp only [List.getElem?_toArray, List.getElem?_cons_zero, List.getElem?_cons_succ]; rfl)
  case hf6 => kernel_rfl
  case hr6 => kernel_rfl
  case hQ6 => exact fun _ _ _ h => h
  case hy6 => refine Or.inl ⟨by rfl, ?_⟩; intro W hSw; have s0 := hSw.2.cell; go_simp; try with_reducible rfl
  try simp only [Act.put, List.setIfInBounds_toArray, List.set_cons_zero, List.set_cons_succ]
  refine wpAnyH_done (by kernel_rfl) ?_ _
  go_wp2
  refine bodyPost_ret_by (results_cell_tmp2 (p := 8) (q := 9) (r := 10) (ty := 49) (by kernel_rfl) _ _ ⟨g + 2, 0, none⟩ (sv (P ++ Q)) rfl (run_load_pair _ _ _ hPQ r5.at_)) rfl ?_
  exact ⟨rfl, b5⟩

/-- Both sums and how many are left; or one is missing. -/
theorem kends_yes (hn : n ≤ 1000000) (hin : InS w A n ys) (hy : ∀ x ∈ ys, x < 256) (hc : n ≤ c) (hal : a.length = 32) (hab : ∀ x ∈ a, x < 256) (hk : Knows w) (hs : Starts w) (hm : Miss w E) (h1 : 1 ≤ from_) (hfs : from_ ≤ size) (hz : size < 18446744073709551616) (hd : ldep from_ size true ≤ n) :
    Calls Tryz.prog 15 #[.int .u64 (from_ : Int), .int .u64 (size : Int), sv a, .slice A n c] w fun e w' => e = .returned (.tuple #[sv ((linkF (nth ys) a from_ size true 0).1 ++ (linkF (nth ys) a from_ size true 0).2), .int .i64 ((n - ldep from_ size true : Nat) : Int), .nilIface]) ∧ Below w.heap.size w w' := by
  have L := linkF_len (a := a) (j := 0) (edge := true) hin.len hal (size := size) (from_ := from_) (by omega)
  have C := (klead_any (ab := w.heap.size) (lb := w.heap.size + 1) (nb := w.heap.size + 3) (gb := w.heap.size + 4) hn hy hin.len hal hab hk hs hm size from_ 0 true h1 hfs hz (Nat.zero_le _)).1 (by omega)
  rw [Nat.zero_add] at C
  exact kends_at rfl rfl hin hc L.1 L.2 C
theorem kends_no (hn : n ≤ 1000000) (hin : InS w A n ys) (hy : ∀ x ∈ ys, x < 256) (hc : n ≤ c) (hal : a.length = 32) (hab : ∀ x ∈ a, x < 256) (hk : Knows w) (hs : Starts w) (hm : Miss w E) (h1 : 1 ≤ from_) (hfs : from_ ≤ size) (hz : size < 18446744073709551616) (hd : n < ldep from_ size true) :
    ∃ P Q : List Nat, ∃ m : Nat, P.length = 32 ∧ Q.length = 32 ∧ Calls Tryz.prog 15 #[.int .u64 (from_ : Int), .int .u64 (size : Int), sv a, .slice A n c] w fun e w' => e = .returned (.tuple #[sv (P ++ Q), .int .i64 (m : Int), missV E]) ∧ Below w.heap.size w w' := by
  obtain ⟨P, Q, j', hP, hQ, C⟩ := (klead_any (ab := w.heap.size) (lb := w.heap.size + 1) (nb := w.heap.size + 3) (gb := w.heap.size + 4) hn hy hin.len hal hab hk hs hm size from_ 0 true h1 hfs hz (Nat.zero_le _)).2 (by omega)
  exact ⟨P, Q, n - j', hP, hQ, kends_at rfl rfl hin hc hP hQ C⟩

end

end Go.Proofs.YtilgikhdamkeoaaGreatDoor

/-
  links.Check.
-/
namespace Go.Proofs.YtilgikhdamkeoaaGreatDoor
open Go.RowKit

theorem wpList_load_pair_g {ops : Array Oper} {rest : List Oper} {o : Oper} {a : Act} {w : World} {Q : Exit → Act → World → Prop} (hw : Region.wanted o (yielded ops a.tmps) = true) (x : Operand) (ho : o.op = .load 49 x)
    (ad : Addr) (hx : a.eval x = .pointer (some ad)) (s : List Nat) (hl : s.length = 64) (hc : At w ad s)
    (h : wpList Tryz.prog ops Q rest (a.put o.dst (sv s)) w) : wpList Tryz.prog ops Q (o :: rest) a w := by
  refine wpList_step fun K hK => ?_
  rw [if_pos hw]
  unfold Oper.wp execOp
  simp only [ho, hx, Instr.loadAt, Instr.sureAddr, Sem.run_bind, Sem.run_pure, Result.andThen_ok, run_load_pair w ad s hl hc]
  exact hK _ _ h
theorem wpList_build_pair_g {ops : Array Oper} {rest : List Oper} {o : Oper} {a : Act} {w : World} {Q : Exit → Act → World → Prop} (hw : Region.wanted o (yielded ops a.tmps) = true) (u v : Operand) (ho : o.op = .build 49 #[(0, u), (1, v)])
    (x y : List Nat) (hu : a.eval u = sv x) (hv : a.eval v = sv y) (hx : x.length = 32) (hy : y.length = 32)
    (h : wpList Tryz.prog ops Q rest (a.put o.dst (sv (x ++ y))) w) : wpList Tryz.prog ops Q (o :: rest) a w := by
  refine wpList_step fun K hK => ?_
  rw [if_pos hw]
  unfold Oper.wp
  rw [run_build_op u v ho x y hu hv hx hy]
  exact hK _ _ h

/-- The world in which Check begins. -/
structure KCheckIn (w w1 : World) (a b : List Nat) : Prop where
  old : BArr w1 w.heap.size 25 a
  new : BArr w1 (w.heap.size + 1) 25 b
  below : Below w.heap.size w w1
  size : w1.heap.size = w.heap.size + 2
theorem kcheckIn_of (w : World) (a b : List Nat) : KCheckIn w ((w.alloc (.cells (bvs a).toArray 25)).alloc (.cells (bvs b).toArray 25)) a b := by
  have f0 := (BArr.new w 25 a).alloc (.cells (bvs b).toArray 25)
  have f1 := BArr.new (w.alloc (.cells (bvs a).toArray 25)) 25 b
  rw [World.size_alloc] at f1
  exact ⟨f0, f1, (below_alloc w _).alloc (by simp) _, by simp⟩

section
variable {w : World} {n c : Nat} {A : Option Addr} {ys a b : List Nat} {E : Addr} {from_ size : Nat}

set_option maxRecDepth 100000 in
set_option maxHeartbeats 2000000 in
theorem kcheck_far (hge : ¬ (1 ≤ from_ ∧ from_ ≤ size)) :
    Calls Tryz.prog 8 #[.int .u64 (from_ : Int), .int .u64 (size : Int), sv a, sv b, .slice A n c] w fun e w' => e = .returned (.bool false) ∧ Below w.heap.size w w' := by
  have H1 := Lib.hid (kcheckIn_of w a b)
  unfold sv
  by_cases h1 : from_ < 1
  · have hi : (from_ : Int) < 1 := by omega
    go_enter Tryz.func8, Tryz.ntmps8
    go_wp2_with fail
    go_ret
    exact ⟨rfl, H1.out.below⟩
  · have hi : ¬ (from_ : Int) < 1 := by omega
    have hd : decide ((from_ : Int) < 1) = false := by simp; omega
    have hj : (size : Int) < (from_ : Int) := by omega
    go_enter Tryz.func8, Tryz.ntmps8
    go_wp2_with fail
    go_ret
    exact ⟨rfl, H1.out.below⟩

set_option maxRecDepth 100000 in
set_option maxHeartbeats 2000000 in
theorem kcheck_no (hl : a.length = 32) (h1 : 1 ≤ from_) (hlt : from_ ≤ size) (hm : Miss w E)
    (ce : ∀ w' : World, Below w.heap.size w w' → ∃ P Q : List Nat, ∃ m : Nat, P.length = 32 ∧ Q.length = 32 ∧ Calls Tryz.prog 15 #[.int .u64 (from_ : Int), .int .u64 (size : Int), sv a, .slice A n c] w' fun e w'' => e = .returned (.tuple #[sv (P ++ Q), .int .i64 (m : Int), missV E]) ∧ Below w'.heap.size w' w'') :
    Calls Tryz.prog 8 #[.int .u64 (from_ : Int), .int .u64 (size : Int), sv a, sv b, .slice A n c] w fun e w' => e = .returned (.bool false) ∧ Below w.heap.size w w' := by
  obtain ⟨w1, hw1⟩ : ∃ w1, w1 = (w.alloc (.cells (bvs a).toArray 25)).alloc (.cells (bvs b).toArray 25) := ⟨_, rfl⟩
  have k1 := kcheckIn_of w a b
  rw [← hw1] at k1
  have H1 := Lib.hid k1
  have HW := Lib.hid hw1
  obtain ⟨P, Q, m, hPl, hQl, ce1⟩ := ce w1 k1.below
  have CE := Lib.hid ce1
  have hi : ¬ (from_ : Int) < 1 := by omega
  have hd : decide ((from_ : Int) < 1) = false := by simp; omega
  have hj : ¬ (size : Int) < (from_ : Int) := by omega
  have hA := Lib.hid k1.old.at_
  have hPQ : (P ++ Q).length = 64 := by rw [List.length_append]; omega
  have HM := Lib.hid hm
  have mv : missV E = .iface 184 (.pointer (some E)) := rfl
  clear k1 hw1 ce ce1 hlt hm h1
  unfold sv
  go_enter Tryz.func8, Tryz.ntmps8
  go_upto_region 1 with fail
  rw [← HW.out]
  go_wp2_with (with_reducible refine wpList_load_sum rfl (.tmp 7) rfl ⟨w.heap.size, 0, none⟩ rfl a hl hA.out ?_)
  refine CE.out.mono ?_
  rintro e w2 ⟨rfl, hb2⟩
  rw [mv]
  have m2 := (HM.out.below H1.out.below).below hb2
  unfold Miss at m2
  rw [mv] at m2
  have B2 := Lib.hid (below_on H1.out.below (Nat.le_refl _) hb2)
  have b3 := below_alloc w2 (.cells (bvs (P ++ Q)).toArray 49)
  have m3 := (b3.cell (World.block_lt_of_cell? w2 _ m2)).trans m2
  have HB3 := Lib.hid b3
  clear m2 hb2 b3 mv
  go_upto_region 4 with (with_reducible refine wpList_store_newP w2 _ rfl rfl (.tmp 11) (.tmp 27) rfl rfl (P ++ Q) hPQ rfl ?_)
  obtain ⟨w3, hw3⟩ : ∃ w3, w3 = w2.alloc (.cells (bvs (P ++ Q)).toArray 49) := ⟨_, rfl⟩
  rw [← hw3] at m3 HB3 ⊢
  clear hw3
  go_wp2_with fail
  refine (is_same E w3).mono ?_
  rintro e w4 ⟨rfl, rfl⟩
  go_wp2_with fail
  go_ret
  exact ⟨rfl, below_on B2.out (Nat.le_refl _) HB3.out⟩

set_option maxRecDepth 100000 in
set_option maxHeartbeats 4000000 in
theorem kcheck_at {P Q : List Nat} {m : Nat} (z : Bool) (hmz : ((m : Int) == 0) = z) (hPl : P.length = 32) (hQl : Q.length = 32) (hl : a.length = 32) (hbl : b.length = 32) (h1 : 1 ≤ from_) (hlt : from_ ≤ size) (hm : Miss w E)
    (ce : ∀ w' : World, Below w.heap.size w w' → Calls Tryz.prog 15 #[.int .u64 (from_ : Int), .int .u64 (size : Int), sv a, .slice A n c] w' fun e w'' => e = .returned (.tuple #[sv (P ++ Q), .int .i64 (m : Int), .nilIface]) ∧ Below w'.heap.size w' w'') :
    Calls Tryz.prog 8 #[.int .u64 (from_ : Int), .int .u64 (size : Int), sv a, sv b, .slice A n c] w fun e w' => e = .returned (.bool (z && (decide (P = a) && decide (Q = b)))) ∧ Below w.heap.size w w' := by
  obtain ⟨w1, hw1⟩ : ∃ w1, w1 = (w.alloc (.cells (bvs a).toArray 25)).alloc (.cells (bvs b).toArray 25) := ⟨_, rfl⟩
  have k1 := kcheckIn_of w a b
  rw [← hw1] at k1
  have H1 := Lib.hid k1
  have HW := Lib.hid hw1
  have CE := Lib.hid (ce w1 k1.below)
  have hi : ¬ (from_ : Int) < 1 := by omega
  have hd : decide ((from_ : Int) < 1) = false := by simp; omega
  have hj : ¬ (size : Int) < (from_ : Int) := by omega
  have hA := Lib.hid k1.old.at_
  have hPQ : (P ++ Q).length = 64 := by rw [List.length_append]; omega
  have HM := Lib.hid hm
  have HZ := Lib.hid hmz
  have mv : missV E = .iface 184 (.pointer (some E)) := rfl
  have q1 := run_eql_pair P Q a b hPl hQl hl hbl
  have q2 := fun x y => run_guard_pair x y (P ++ Q) (a ++ b)
  clear k1 hw1 ce hlt hm h1 hmz
  unfold sv
  go_enter Tryz.func8, Tryz.ntmps8
  go_upto_region 1 with fail
  rw [← HW.out]
  go_wp2_with (with_reducible refine wpList_load_sum rfl (.tmp 7) rfl ⟨w.heap.size, 0, none⟩ rfl a hl hA.out ?_)
  refine CE.out.mono ?_
  rintro e w2 ⟨rfl, hb2⟩
  have m2 := (HM.out.below H1.out.below).below hb2
  unfold Miss at m2
  rw [mv] at m2
  have B2 := Lib.hid (below_on H1.out.below (Nat.le_refl _) hb2)
  have b3 := below_alloc w2 (.cells (bvs (P ++ Q)).toArray 49)
  have g3 := BArr.new w2 49 (P ++ Q)
  have m3 := (b3.cell (World.block_lt_of_cell? w2 _ m2)).trans m2
  have O3 := Lib.hid ((H1.out.old.below hb2).below b3).at_
  have N3 := Lib.hid ((H1.out.new.below hb2).below b3).at_
  have HB3 := Lib.hid b3
  have HG3 := Lib.hid g3.at_
  clear m2 hb2 b3 mv g3
  go_upto_region 4 with (with_reducible refine wpList_store_newP w2 _ rfl rfl (.tmp 11) (.tmp 27) rfl rfl (P ++ Q) hPQ rfl ?_)
  obtain ⟨w3, hw3⟩ : ∃ w3, w3 = w2.alloc (.cells (bvs (P ++ Q)).toArray 49) := ⟨_, rfl⟩
  rw [← hw3] at m3 HB3 O3 N3 HG3 ⊢
  clear hw3
  go_wp2_with fail
  refine (is_nil E w3).mono ?_
  rintro e w4 ⟨rfl, rfl⟩
  have hmz := HZ.out
  cases z
  · go_wp2_with fail
    go_ret
    exact ⟨rfl, below_on B2.out (Nat.le_refl _) HB3.out⟩
  · go_upto_region 6 with fail
    refine wp_region_lit ?_
    refine wpList_plain rfl fun K hK => ?_
    go_simp
    refine hK _ _ ?_
    clear hK K
    refine wpList_plain rfl fun K hK => ?_
    go_simp
    refine hK _ _ ?_
    clear hK K
    refine wpList_plain rfl fun K hK => ?_
    go_simp
    refine hK _ _ ?_
    clear hK K
    refine wpList_load_pair_g rfl (.tmp 11) rfl ⟨w2.heap.size, 0, none⟩ rfl (P ++ Q) hPQ HG3.out ?_
    refine wpList_load_sum_g rfl (.tmp 7) rfl ⟨w.heap.size, 0, none⟩ rfl a hl O3.out ?_
    refine wpList_load_sum_g rfl (.tmp 8) rfl ⟨w.heap.size + 1, 0, none⟩ rfl b hbl N3.out ?_
    refine wpList_build_pair_g rfl (.tmp 37) (.tmp 38) rfl a b rfl rfl hl hbl ?_
    simp only [Act.put, List.setIfInBounds_toArray, List.set_cons_zero, List.set_cons_succ]
    go_wp2_with fail
    go_ret
    exact ⟨rfl, below_on B2.out (Nat.le_refl _) HB3.out⟩

/-- Whether a tree of so many leaves begins another one, by that link. -/
def begins (ys a b : List Nat) (n from_ size : Nat) : Bool := decide (1 ≤ from_ ∧ from_ ≤ size) && (decide (ldep from_ size true = n) && (decide ((linkF (nth ys) a from_ size true 0).1 = a) && decide ((linkF (nth ys) a from_ size true 0).2 = b)))

theorem kcheck_any (hin : InS w A n ys) (hy : ∀ x ∈ ys, x < 256) (hc : n ≤ c) (hn : n ≤ 1000000) (hal : a.length = 32) (hab : ∀ x ∈ a, x < 256) (hbl : b.length = 32) (hz : size < 18446744073709551616) (hk : Knows w) (hs : Starts w) (hm : Miss w E) :
    Calls Tryz.prog 8 #[.int .u64 (from_ : Int), .int .u64 (size : Int), sv a, sv b, .slice A n c] w fun e w' => e = .returned (.bool (begins ys a b n from_ size)) ∧ Below w.heap.size w w' := by
  unfold begins
  by_cases hat : 1 ≤ from_ ∧ from_ ≤ size
  · rw [decide_eq_true hat, Bool.true_and]
    by_cases hd : ldep from_ size true ≤ n
    · have L := linkF_len (a := a) (j := 0) (edge := true) hin.len hal (size := size) (from_ := from_) (by omega)
      exact kcheck_at _ (by
          by_cases he : ldep from_ size true = n
          · simp [he]
          · have : ¬ n - ldep from_ size true = 0 := by omega
            simp [he]; omega) L.1 L.2 hal hbl hat.1 hat.2 hm fun w' hb' => kends_yes hn (hin.below hb') hy hc hal hab (hk.below hb') (hs.below hb') (hm.below hb') hat.1 hat.2 hz hd
    · rw [decide_eq_false (p := ldep from_ size true = n) (by omega), Bool.false_and]
      exact kcheck_no hal hat.1 hat.2 hm fun w' hb' => kends_no hn (hin.below hb') hy hc hal hab (hk.below hb') (hs.below hb') (hm.below hb') hat.1 hat.2 hz (by omega)
  · rw [decide_eq_false hat, Bool.false_and]
    exact kcheck_far hat
end

end Go.Proofs.YtilgikhdamkeoaaGreatDoor

/-
  An argument of type Said: two sizes, two roots, and a link.
-/
namespace Go.Proofs.YtilgikhdamkeoaaGreatDoor
open Go.ChangeShapes Go.WideShapes Go.ChangeAt Go.RowKit Go.Deep

theorem cellsSaidK : Tryz.prog.cellsOf 27 = 67 := by kernel_rfl

/-- The cells of one that is said. -/
def saidK (from_ size : Nat) (a b : List Nat) (A : Option Addr) (n c : Nat) : List Value := [.int .u64 (from_ : Int), .int .u64 (size : Int)] ++ (bvs a ++ (bvs b ++ [.slice A n c]))

set_option maxRecDepth 100000 in
theorem came_saidK {H : Type} {enc : TypeId × Value → H} {W : World} {b0 : Nat} {held : Bool} {r : Reach} {v : Value} {d : DataW H} {ps : List MemPlace}
    (hval : Value.okWide Tryz.prog W r b0 27 v) (hd : DataW.Trod enc Tryz.prog W 0 (fun _ => true) held 27 v d ps) :
    ∃ (from_ size : Nat) (a b : List Nat) (A : Option Addr) (n c : Nat) (ys : List Nat), v = .agg (saidK from_ size a b A n c).toArray ∧ from_ < 18446744073709551616 ∧ size < 18446744073709551616 ∧ a.length = 32 ∧ (∀ x ∈ a, x < 256) ∧ b.length = 32 ∧ (∀ x ∈ b, x < 256) ∧ CameS W A n c ys := by
  simp only [Value.okWide, Tryz.underlying27] at hval
  obtain ⟨cs, rfl, hsz, _⟩ := hval
  rw [cellsSaidK] at hsz
  obtain ⟨fuel, hf⟩ := hd
  obtain ⟨xs, n, _, _, hl, hlen, hx⟩ := DataW.trod_struct Tryz.underlying27 hf
  match xs, hlen with
  | [y0, y1, y2, y3, y4], _ =>
    obtain ⟨l⟩ := cs
    have hln : l.length = 67 := by simpa using hsz
    have h0 := hx 0 _ rfl
    have h1 := hx 1 _ rfl
    have h2 := hx 2 _ rfl
    have h3 := hx 3 _ rfl
    have h4 := hx 4 _ rfl
    have g0 : DataW.trod enc Tryz.prog W 0 (fun _ => true) held n 23 ((l.drop 0).take (Tryz.prog.cellsOf 23)) = some y0 := h0
    rw [cellsS64] at g0
    have g1 : DataW.trod enc Tryz.prog W 0 (fun _ => true) held n 23 ((l.drop 1).take (Tryz.prog.cellsOf 23)) = some y1 := h1
    rw [cellsS64] at g1
    have g2 : DataW.trod enc Tryz.prog W 0 (fun _ => true) held n 25 ((l.drop 2).take (Tryz.prog.cellsOf 25)) = some y2 := h2
    rw [cellsSum] at g2
    have g3 : DataW.trod enc Tryz.prog W 0 (fun _ => true) held n 25 ((l.drop 34).take (Tryz.prog.cellsOf 25)) = some y3 := h3
    rw [cellsSum] at g3
    have g4 : DataW.trod enc Tryz.prog W 0 (fun _ => true) held n 22 ((l.drop 66).take (Tryz.prog.cellsOf 22)) = some y4 := h4
    rw [cellsSpath] at g4
    obtain ⟨q1, e0, lt1⟩ := u64_one g0
    obtain ⟨q2, e1, lt2⟩ := u64_one g1
    obtain ⟨a, e2, l2, b2⟩ := list_sum g2
    obtain ⟨b, e3, l3, b3⟩ := list_sum g3
    obtain ⟨u, e4⟩ := one_of ((l.drop 66).take 1) (by rw [List.length_take, List.length_drop]; omega)
    rw [e4] at g4
    obtain ⟨A, m, c, ys, rfl, cm⟩ : ∃ A m c ys, u = .slice A m c ∧ CameS W A m c ys := by
      rcases Go.Deep.open_slice Tryz.underlying22 g4 with ⟨h0, _⟩ | ⟨ad, l, c, m, n, D, Pl, h0, _⟩
      · simp at h0
        subst h0
        exact ⟨none, 0, 0, [], rfl, InS.none_ _ _, (by intro x hx; cases hx), fun _ => rfl, Nat.le_refl _⟩
      · simp at h0
        subst h0
        obtain ⟨ys, hys⟩ := cameS_of g4
        exact ⟨_, _, _, ys, rfl, hys⟩
    refine ⟨q1, q2, a, b, A, m, c, ys, ?_, lt1, lt2, l2, b2, l3, b3, cm⟩
    have el : l = (l.drop 0).take 1 ++ ((l.drop 1).take 1 ++ ((l.drop 2).take 32 ++ ((l.drop 34).take 32 ++ (l.drop 66).take 1))) := by
      rw [List.drop_zero]
      conv => lhs; rw [← List.take_append_drop 1 l, ← List.take_append_drop 1 (l.drop 1), ← List.take_append_drop 32 ((l.drop 1).drop 1), ← List.take_append_drop 32 (((l.drop 1).drop 1).drop 32)]
      rw [List.drop_drop, List.drop_drop, List.drop_drop]
      rw [show List.take 1 (List.drop 66 l) = List.drop (1 + 1 + 32 + 32) l from List.take_of_length_le (by rw [List.length_drop]; omega)]
    rw [e0, e1, e2, e3, e4] at el
    unfold saidK
    rw [el]
    rfl

/-- The variable that such a one lies in. -/
structure SaidKAt (w : World) (g : Nat) (from_ size : Nat) (a b : List Nat) (A : Option Addr) (n c : Nat) : Prop where
  from_ : w.cell? ⟨g, 0, none⟩ = some (.int .u64 (from_ : Int))
  size : w.cell? ⟨g, 1, none⟩ = some (.int .u64 (size : Int))
  old : At w ⟨g, 2, none⟩ a
  new : At w ⟨g, 34, none⟩ b
  link : w.cell? ⟨g, 66, none⟩ = some (.slice A n c)
theorem SaidKAt.below {w w' : World} {g from_ size n c : Nat} {A : Option Addr} {a b : List Nat} (h : SaidKAt w g from_ size a b A n c) (hb : Below w.heap.size w w') : SaidKAt w' g from_ size a b A n c :=
  ⟨(hb.cell (World.block_lt_of_cell? w _ h.from_)).trans h.from_, (hb.cell (World.block_lt_of_cell? w _ h.size)).trans h.size, h.old.below hb, h.new.below hb, (hb.cell (World.block_lt_of_cell? w _ h.link)).trans h.link⟩
theorem saidK_new (w : World) {from_ size n c : Nat} {A : Option Addr} {a b : List Nat} (hl : a.length = 32) (hl' : b.length = 32) :
    SaidKAt (w.alloc (.cells (saidK from_ size a b A n c).toArray 27)) w.heap.size from_ size a b A n c := by
  have hc : ∀ i, (w.alloc (.cells (saidK from_ size a b A n c).toArray 27)).cell? ⟨w.heap.size, i, none⟩ = (saidK from_ size a b A n c)[i]? := fun i => by
    rw [cell_of_row _ w.heap.size i _ _ (0, 0) (World.alloc_heap_new w _), List.getElem?_toArray]
  have ha1 : (bvs a).length = 32 := by rw [bvs_length, hl]
  have hb1 : (bvs b).length = 32 := by rw [bvs_length, hl']
  have ha : ∀ o j : Nat, (⟨w.heap.size, o, none⟩ : Addr).add j = ⟨w.heap.size, o + j, none⟩ := fun o j => by unfold Addr.add; split <;> simp_all
  refine ⟨by rw [hc]; rfl, by rw [hc]; rfl, fun j x hx => ?_, fun j x hx => ?_, ?_⟩
  · rw [ha, hc]
    unfold saidK
    rw [List.getElem?_append_right (by simp), show 2 + j - [Value.int .u64 (from_ : Int), .int .u64 (size : Int)].length = j by simp, List.getElem?_append_left (by rw [ha1, ← hl]; exact (List.getElem?_eq_some_iff.1 hx).1), bvs_get, hx]
    rfl
  · rw [ha, hc]
    unfold saidK
    rw [List.getElem?_append_right (by simp; omega), show 34 + j - [Value.int .u64 (from_ : Int), .int .u64 (size : Int)].length = 32 + j by simp; omega, List.getElem?_append_right (by omega), ha1, show 32 + j - 32 = j by omega, List.getElem?_append_left (by rw [hb1, ← hl']; exact (List.getElem?_eq_some_iff.1 hx).1), bvs_get, hx]
    rfl
  · rw [hc]
    unfold saidK
    rw [List.getElem?_append_right (by simp), List.getElem?_append_right (by rw [ha1]; simp), List.getElem?_append_right (by rw [ha1, hb1]; simp), ha1, hb1]
    rfl

end Go.Proofs.YtilgikhdamkeoaaGreatDoor

/-
  almonerref08.Cut of any number of 64 bits.
-/
namespace Go.Proofs.YtilgikhdamkeoaaGreatDoor
open Go.RowKit

set_option maxRecDepth 100000 in
set_option maxHeartbeats 1000000 in
theorem refCut_all (n : Nat) (w : World) (h2 : 2 ≤ n) (hn : n < 18446744073709551616) :
    Calls Tryz.prog 49 #[.int .u64 (n : Int)] w fun e w' => e = .returned (.int .u64 (cutN n : Int)) ∧ w' = w := by
  go_enter Tryz.func49, Tryz.ntmps49
  go_wp2
  go_loopw [3] (fun i wr => ∃ e k : Nat, 2 ^ e = k ∧ k < n ∧ i = .int .u64 (k : Int) ∧ wr = w) (fun i _ => n - (intOf i).toNat)
  case atStart => exact ⟨0, 1, rfl, by omega, rfl, rfl⟩
  case round =>
    obtain ⟨e, k, he, hlt, rfl, rfl⟩ := hrel
    obtain ⟨d, hd⟩ : ∃ d, n - k = d := ⟨_, rfl⟩
    have hsub : (n : Int) - (k : Int) = (d : Int) := by omega
    have hw1 : IntKind.u64.wrap (d : Int) = (d : Int) := by rw [IntKind.wrap_u64]; omega
    by_cases hmore : k < d
    · have hw2 : IntKind.u64.wrap (2 * (k : Int)) = 2 * (k : Int) := by rw [IntKind.wrap_u64]; omega
      have hi : decide ((k : Int) < (d : Int)) = true := by simp; omega
      have HP := Lib.hid (And.intro he hd)
      clear he hd
      go_wp2
      go_roundw
      case rel => exact ⟨e + 1, 2 * k, by rw [Nat.pow_succ, HP.out.1, Nat.mul_comm], by have := HP.out.2; omega, by go_num, trivial⟩
      case measure => simp [intOf]; have := Nat.two_pow_pos e; have := HP.out; omega
    · have hi : decide ((k : Int) < (d : Int)) = false := by simp; omega
      have hc : cutN n = k := by rw [← he]; exact cutN_of (by rw [he]; exact hlt) (by rw [he]; omega)
      have HC := Lib.hid hc
      clear he hc hd
      go_wp2
      go_ret
      exact ⟨by rw [HC.out]; rfl, rfl⟩

end Go.Proofs.YtilgikhdamkeoaaGreatDoor

/-
  A list of sums that a call answers, of its own; a list of one sum.
-/
namespace Go.Proofs.YtilgikhdamkeoaaGreatDoor
open Go.RowKit

/-- '[]api.Sum{s}' in a plain region. -/
theorem wpList_one_sum {ops : Array Oper} {rest : List Oper} {o : Oper} {a : Act} {w : World} {Q : Exit → Act → World → Prop} (hgd : o.guard = none) (parts : Array (Nat × Operand)) (s : List Nat) (ho : o.op = .buildSlice 22 1 parts)
    (hx : (parts.map fun (i, x) => (i, a.eval x)).toList = [(0, sv s)]) (hl : s.length = 32)
    (h : wpList Tryz.prog ops Q rest (a.put o.dst (.slice (some ⟨w.heap.size, 0, none⟩) 1 1)) (w.alloc (.cells (bvs s).toArray 25))) : wpList Tryz.prog ops Q (o :: rest) a w := by
  refine wpList_plain hgd fun K hK => ?_
  refine wp_sums parts [s] 1 ho rfl hx (by intro x hx'; rw [List.mem_singleton.1 hx']; exact hl) (by omega) (by omega) ?_
  rw [show [s].flatten = s by simp]
  exact hK _ _ h

/-- A call has answered a list of d sums of its own, whose bytes are xs. -/
def GivesS (base : Nat) (w : World) (d : Nat) (xs : List Nat) (e : Ending) (w' : World) : Prop :=
  ∃ A' c', e = .returned (.slice A' d c') ∧ w'.ownsRow base 25 32 (.slice A' d c') d (bvs xs) ∧ Below base w w'

end Go.Proofs.YtilgikhdamkeoaaGreatDoor

/-
  links.linkOf, one step.
-/
namespace Go.Proofs.YtilgikhdamkeoaaGreatDoor
open Go.RowKit

theorem kwrap64 {k : Nat} (h : k ≤ 65536) : wrap64 (k : Int) = (k : Int) := by simp only [wrap64]; omega
theorem kwrapI {k : Nat} (h : k ≤ 65536) : IntKind.i64.wrap (k : Int) = (k : Int) := by rw [IntKind.wrap_i64]; omega

section
variable {w : World} {n c from_ : Nat} {A : Option Addr} {ys : List Nat} {edge : Bool}

set_option maxRecDepth 100000 in
set_option maxHeartbeats 1000000 in
theorem klink_edge (hf : from_ = n) : Calls Tryz.prog 13 #[.slice A n c, .int .i64 (from_ : Int), .bool true] w (GivesS w.heap.size w 0 []) := by
  subst hf
  have hq : ((from_ : Int) == (from_ : Int)) = true := by simp
  go_enter Tryz.func13, Tryz.ntmps13
  go_wp2_with fail
  go_ret
  exact ⟨none, 0, rfl, own_none _ _ _ _, Below.refl _ _⟩

set_option maxRecDepth 100000 in
set_option maxHeartbeats 1000000 in
theorem klink_root {R : List Nat} (hf : from_ = n) (hRl : R.length = 32) (cr : Calls Tryz.prog 46 #[.slice A n c] w fun e w' => e = .returned (sv R) ∧ Below w.heap.size w w') :
    Calls Tryz.prog 13 #[.slice A n c, .int .i64 (from_ : Int), .bool false] w (GivesS w.heap.size w 1 R) := by
  subst hf
  have hq : ((from_ : Int) == (from_ : Int)) = true := by simp
  go_enter Tryz.func13, Tryz.ntmps13
  go_wp2_with fail
  refine cr.mono ?_
  rintro e w1 ⟨rfl, hb1⟩
  have HB := Lib.hid hb1
  clear hb1
  go_wp2_with (refine wpList_one_sum rfl _ R rfl (by simp <;> rfl) hRl ?_)
  go_ret
  exact ⟨some ⟨w1.heap.size, 0, none⟩, 1, rfl, own_sum w1 R w.heap.size hRl HB.out.size, below_on HB.out (Nat.le_refl _) (below_alloc w1 _)⟩

set_option maxRecDepth 100000 in
set_option maxHeartbeats 4000000 in
theorem klink_low {ad : Addr} {k m d : Nat} {L R : List Nat} (hc : n ≤ c) (hn : n ≤ 65536) (h2 : 2 ≤ n) (hfn : from_ < n) (hk0 : cutN n = k) (hm0 : n - k = m) (ha : from_ ≤ k) (hd : d ≤ 100) (hRl : R.length = 32)
    (ci : Calls Tryz.prog 13 #[.slice (some ad) k c, .int .i64 (from_ : Int), .bool edge] w.drew (GivesS w.heap.size w d L))
    (cr : ∀ W : World, Below w.heap.size w W → Calls Tryz.prog 46 #[.slice (some (ad.add (k * 32))) m (c - k)] W fun e w' => e = .returned (sv R) ∧ Below W.heap.size W w') :
    Calls Tryz.prog 13 #[.slice (some ad) n c, .int .i64 (from_ : Int), .bool edge] w (GivesS w.heap.size w (d + 1) (L ++ R)) := by
  have hcl := cutN_lt h2
  have hcp := cutN_pos n
  rw [hk0] at hcl hcp
  have hk65 : k ≤ 65536 := by omega
  have hne : ((from_ : Int) == (n : Int)) = false := by simp; omega
  have hai : (from_ : Int) ≤ (k : Int) := by omega
  have CM := Lib.hid (kleft_any n w h2 (by omega))
  rw [hk0] at CM
  have ht := run_take_sums (ad := ad) (n := n) (c := c) (k := k) (by omega) hc
  have hr := run_drop_sums (ad := ad) (n := n) (c := c) (k := k) hcl hc
  rw [hm0] at hr
  have CI := Lib.hid ci
  have CR := Lib.hid cr
  have HD := Lib.hid hd
  have hd9 : d + 1 ≤ 1000000000 := by omega
  have wn : IntKind.u64.wrap (n : Int) = (n : Int) := by rw [IntKind.wrap_u64]; omega
  have wk : IntKind.i64.wrap (k : Int) = (k : Int) := kwrapI hk65
  have wk2 : wrap64 (k : Int) = (k : Int) := kwrap64 hk65
  clear ci cr hcl hcp hc hn h2 hk0 hm0 hd ha hfn hk65
  go_enter Tryz.func13, Tryz.ntmps13
  go_wp2_with fail
  refine CM.out.mono ?_
  rintro e w1 ⟨rfl, rfl⟩
  go_upto_region 7 with fail
  refine wp_region_held (S := fun _ => True) (by kernel_rfl) ?_
  change wpAnyH _ _ _ _ _ _ _ _ w1.drew
  refine' wpAnyH_take (i := 0) (oi := _) (v := _) ?hi0 (by kernel_rfl) ?hf0 ?hr0 ?hQ0 ?hy0 trivial ?rest0
  case hi0 => (simp only [List.getElem?_toArray, List.getElem?_cons_zero]; rfl)
  case hf0 => kernel_rfl
  case hr0 => kernel_rfl
  case hQ0 => exact fun _ _ _ h => h
  case hy0 =>
    refine Or.inl ⟨by rfl, ?_⟩
    intro W _
    go_simp
    try with_reducible rfl
  try simp only [Act.put, List.setIfInBounds_toArray, List.set_cons_zero, List.set_cons_succ]
  refine' wpAnyH_take (i := 1) (oi := _) (v := _) ?hi1 (by kernel_rfl) ?hf1 ?hr1 ?hQ1 ?hy1 trivial ?rest1
  case hi1 => (simp only [List.getElem?_toArray, List.getElem?_cons_zero, List.getElem?_cons_succ]; rfl)
  case hf1 => kernel_rfl
  case hr1 => kernel_rfl
  case hQ1 => exact fun _ _ _ h => h
  case hy1 =>
    refine Or.inl ⟨by rfl, ?_⟩
    intro W _
    go_simp
    try with_reducible rfl
  try simp only [Act.put, List.setIfInBounds_toArray, List.set_cons_zero, List.set_cons_succ]
  refine' wpAnyH_take (i := 2) (oi := _) (v := _) ?hi2 (by kernel_rfl) ?hf2 ?hr2 ?hQ2 ?hy2 trivial ?rest2
  case hi2 => (simp only [List.getElem?_toArray, List.getElem?_cons_zero, List.getElem?_cons_succ]; rfl)
  case hf2 => kernel_rfl
  case hr2 => kernel_rfl
  case hQ2 => exact fun _ _ _ h => h
  case hy2 =>
    refine Or.inl ⟨by rfl, ?_⟩
    intro W _
    go_simp
    try with_reducible rfl
  try simp only [Act.put, List.setIfInBounds_toArray, List.set_cons_zero, List.set_cons_succ]
  refine' wpAnyH_take (i := 3) (oi := _) (v := _) ?hi3 (by kernel_rfl) ?hf3 ?hr3 ?hQ3 ?hy3 trivial ?rest3
  case hi3 => (simp only [List.getElem?_toArray, List.getElem?_cons_zero, List.getElem?_cons_succ]; rfl)
  case hf3 => kernel_rfl
  case hr3 => kernel_rfl
  case hQ3 => exact fun _ _ _ h => h
  case hy3 =>
    refine Or.inl ⟨by rfl, ?_⟩
    intro W _
    go_simp
    try with_reducible rfl
  try simp only [Act.put, List.setIfInBounds_toArray, List.set_cons_zero, List.set_cons_succ]
  refine' wpAnyH_take (i := 4) (oi := _) (v := _) ?hi4 (by kernel_rfl) ?hf4 ?hr4 ?hQ4 ?hy4 trivial ?rest4
  case hi4 => (simp only [List.getElem?_toArray, List.getElem?_cons_zero, List.getElem?_cons_succ]; rfl)
  case hf4 => kernel_rfl
  case hr4 => kernel_rfl
  case hQ4 => exact fun _ _ _ h => h
  case hy4 =>
    refine Or.inl ⟨by rfl, ?_⟩
    intro W _
    go_simp
    try with_reducible rfl
  try simp only [Act.put, List.setIfInBounds_toArray, List.set_cons_zero, List.set_cons_succ]
  refine' wpAnyH_take (i := 6) (oi := _) (v := _) ?hi6 (by kernel_rfl) ?hf6 ?hr6 ?hQ6 ?hy6 trivial ?rest6
  case hi6 => (simp only [List.getElem?_toArray, List.getElem?_cons_zero, List.getElem?_cons_succ]; rfl)
  case hf6 => kernel_rfl
  case hr6 => kernel_rfl
  case hQ6 => exact fun _ _ _ h => h
  case hy6 =>
    refine Or.inl ⟨by rfl, ?_⟩
    intro W _
    go_simp
    try with_reducible rfl
  try simp only [Act.put, List.setIfInBounds_toArray, List.set_cons_zero, List.set_cons_succ]
  refine' wpAnyH_take (i := 7) (oi := _) (v := _) ?hi7 (by kernel_rfl) ?hf7 ?hr7 ?hQ7 ?hy7 trivial ?rest7
  case hi7 => (simp only [List.getElem?_toArray, List.getElem?_cons_zero, List.getElem?_cons_succ]; rfl)
  case hf7 => kernel_rfl
  case hr7 => kernel_rfl
  case hQ7 => exact fun _ _ _ h => h
  case hy7 =>
    refine Or.inl ⟨by rfl, ?_⟩
    intro W _
    go_simp
    try with_reducible rfl
  try simp only [Act.put, List.setIfInBounds_toArray, List.set_cons_zero, List.set_cons_succ]
  refine' wpAnyH_take (i := 8) (oi := _) (v := _) ?hi8 (by kernel_rfl) ?hf8 ?hr8 ?hQ8 ?hy8 trivial ?rest8
  case hi8 => (simp only [List.getElem?_toArray, List.getElem?_cons_zero, List.getElem?_cons_succ]; rfl)
  case hf8 => kernel_rfl
  case hr8 => kernel_rfl
  case hQ8 => exact fun _ _ _ h => h
  case hy8 =>
    refine Or.inl ⟨by rfl, ?_⟩
    intro W _
    go_simp
    try with_reducible rfl
  try simp only [Act.put, List.setIfInBounds_toArray, List.set_cons_zero, List.set_cons_succ]
  refine wpAnyH_ready (rs := [5]) (by kernel_rfl) (by simp) ?_
  refine' AllReadyH.cons (o := _) ?hi5 (fun K hK => ?_) AllReadyH.nil
  case hi5 => (simp only [List.getElem?_toArray, List.getElem?_cons_zero, List.getElem?_cons_succ]; rfl)
  go_simp
  refine CI.out.mono ?_
  rintro e w2 ⟨A2, c2, rfl, ho2, hb2⟩
  have HO2 := Lib.hid (And.intro ho2 hb2)
  clear ho2 hb2
  refine hK.out _ _ trivial (fun _ => ?_)
  clear hK K
  try simp only [Act.put, List.setIfInBounds_toArray, List.set_cons_zero, List.set_cons_succ]
  refine wpAnyH_ready (rs := [9]) (by kernel_rfl) (by simp) ?_
  refine' AllReadyH.cons (o := _) ?hi9 (fun K hK => ?_) AllReadyH.nil
  case hi9 => (simp only [List.getElem?_toArray, List.getElem?_cons_zero, List.getElem?_cons_succ]; rfl)
  go_simp
  refine (CR.out w2 HO2.out.2).mono ?_
  rintro e w3 ⟨rfl, hb3⟩
  have b3 := below_on HO2.out.2 (Nat.le_refl _) hb3
  have o3 := own_on HO2.out.1 hb3
  have o4 := own_on o3 (below_alloc w3 (.cells (bvs R).toArray 25))
  have b4 := b3.alloc b3.size (.cells (bvs R).toArray 25)
  have i4 : InS (w3.alloc (.cells (bvs R).toArray 25)) (some ⟨w3.heap.size, 0, none⟩) 1 R := InS.of_own (own_sum w3 R 0 hRl (Nat.zero_le _))
  have H4 := Lib.hid (And.intro o4 (And.intro b4 i4))
  clear b3 o3 o4 b4 i4 hb3
  refine hK.out _ _ trivial (fun _ => ?_)
  clear hK K
  try simp only [Act.put, List.setIfInBounds_toArray, List.set_cons_zero, List.set_cons_succ]
  refine wpAnyH_ready (rs := [10]) (by kernel_rfl) (by simp) ?_
  refine' AllReadyH.cons (o := _) ?hi10 (fun K hK => ?_) AllReadyH.nil
  case hi10 => (simp only [List.getElem?_toArray, List.getElem?_cons_zero, List.getElem?_cons_succ]; rfl)
  rw [if_pos (by rfl)]
  refine wp_sums _ [R] 1 rfl rfl (by simp <;> rfl) (by intro q hq; simp at hq; rw [hq]; exact hRl) (by omega) (by omega) ?_
  rw [show [R].flatten = R by simp]
  refine hK.out _ _ trivial (fun _ => ?_)
  clear hK K
  try simp only [Act.put, List.setIfInBounds_toArray, List.set_cons_zero, List.set_cons_succ]
  refine wpAnyH_ready (rs := [11]) (by kernel_rfl) (by simp) ?_
  refine' AllReadyH.cons (o := _) ?hi11 (fun K hK => ?_) AllReadyH.nil
  case hi11 => (simp only [List.getElem?_toArray, List.getElem?_cons_zero, List.getElem?_cons_succ]; rfl)
  refine step_sapp (K := K) (by rfl) _ _ (by rfl) w1.heap.size A2 d c2 L (by rfl) H4.out.1 (some ⟨w3.heap.size, 0, none⟩) 1 1 R (by rfl) H4.out.2.2 (fun h => by cases h) hd9 H4.out.2.1.size ?_
  intro A5 c5 w5 o5 nx5
  refine hK.out _ _ trivial (fun _ => ?_)
  clear hK K
  try simp only [Act.put, List.setIfInBounds_toArray, List.set_cons_zero, List.set_cons_succ]
  refine' wpAnyH_take (i := 12) (oi := _) (v := _) ?hi12 (by kernel_rfl) ?hf12 ?hr12 ?hQ12 ?hy12 trivial ?rest12
  case hi12 => (simp only [List.getElem?_toArray, List.getElem?_cons_zero, List.getElem?_cons_succ]; rfl)
  case hf12 => kernel_rfl
  case hr12 => kernel_rfl
  case hQ12 => exact fun _ _ _ h => h
  case hy12 =>
    refine Or.inl ⟨by rfl, ?_⟩
    intro W _
    go_simp
    try with_reducible rfl
  try simp only [Act.put, List.setIfInBounds_toArray, List.set_cons_zero, List.set_cons_succ]
  refine wpAnyH_done (by kernel_rfl) ?_ _
  go_wp2
  go_ret
  exact ⟨A5, c5, rfl, o5, nx5.below H4.out.1 H4.out.2.1 (Nat.le_refl _) H4.out.2.1.size⟩

set_option maxRecDepth 100000 in
set_option maxHeartbeats 4000000 in
theorem klink_high {ad : Addr} {k m a d : Nat} {L R : List Nat} (hc : n ≤ c) (hn : n ≤ 65536) (h2 : 2 ≤ n) (hfn : from_ < n) (hk0 : cutN n = k) (hm0 : n - k = m) (ha : ¬ from_ ≤ k) (ha0 : from_ - k = a) (hd : d ≤ 100) (hRl : R.length = 32)
    (ci : Calls Tryz.prog 13 #[.slice (some (ad.add (k * 32))) m (c - k), .int .i64 (a : Int), .bool false] w.drew (GivesS w.heap.size w d L))
    (cr : ∀ W : World, Below w.heap.size w W → Calls Tryz.prog 46 #[.slice (some ad) k c] W fun e w' => e = .returned (sv R) ∧ Below W.heap.size W w') :
    Calls Tryz.prog 13 #[.slice (some ad) n c, .int .i64 (from_ : Int), .bool edge] w (GivesS w.heap.size w (d + 1) (L ++ R)) := by
  have hcl := cutN_lt h2
  have hcp := cutN_pos n
  rw [hk0] at hcl hcp
  have hk65 : k ≤ 65536 := by omega
  have ha65 : a ≤ 65536 := by omega
  have hne : ((from_ : Int) == (n : Int)) = false := by simp; omega
  have hai : ¬ (from_ : Int) ≤ (k : Int) := by omega
  have CM := Lib.hid (kleft_any n w h2 (by omega))
  rw [hk0] at CM
  have ht := run_take_sums (ad := ad) (n := n) (c := c) (k := k) (by omega) hc
  have hr := run_drop_sums (ad := ad) (n := n) (c := c) (k := k) hcl hc
  rw [hm0] at hr
  have CI := Lib.hid ci
  have CR := Lib.hid cr
  have HD := Lib.hid hd
  have hd9 : d + 1 ≤ 1000000000 := by omega
  have wn : IntKind.u64.wrap (n : Int) = (n : Int) := by rw [IntKind.wrap_u64]; omega
  have wk : IntKind.i64.wrap (k : Int) = (k : Int) := kwrapI hk65
  have ea : (from_ : Int) - (k : Int) = (a : Int) := by omega
  have wa : wrap64 (a : Int) = (a : Int) := kwrap64 ha65
  have wa2 : IntKind.i64.wrap (a : Int) = (a : Int) := kwrapI ha65
  have wk2 : wrap64 (k : Int) = (k : Int) := kwrap64 hk65
  clear ci cr hcl hcp hc hn h2 hk0 hm0 hd ha hfn hk65 ha0 ha65
  go_enter Tryz.func13, Tryz.ntmps13
  go_wp2_with fail
  refine CM.out.mono ?_
  rintro e w1 ⟨rfl, rfl⟩
  go_upto_region 8 with fail
  refine wp_region_held (S := fun _ => True) (by kernel_rfl) ?_
  change wpAnyH _ _ _ _ _ _ _ _ w1.drew
  refine' wpAnyH_take (i := 0) (oi := _) (v := _) ?hi0 (by kernel_rfl) ?hf0 ?hr0 ?hQ0 ?hy0 trivial ?rest0
  case hi0 => (simp only [List.getElem?_toArray, List.getElem?_cons_zero]; rfl)
  case hf0 => kernel_rfl
  case hr0 => kernel_rfl
  case hQ0 => exact fun _ _ _ h => h
  case hy0 =>
    refine Or.inl ⟨by rfl, ?_⟩
    intro W _
    go_simp
    try with_reducible rfl
  try simp only [Act.put, List.setIfInBounds_toArray, List.set_cons_zero, List.set_cons_succ]
  refine' wpAnyH_take (i := 1) (oi := _) (v := _) ?hi1 (by kernel_rfl) ?hf1 ?hr1 ?hQ1 ?hy1 trivial ?rest1
  case hi1 => (simp only [List.getElem?_toArray, List.getElem?_cons_zero, List.getElem?_cons_succ]; rfl)
  case hf1 => kernel_rfl
  case hr1 => kernel_rfl
  case hQ1 => exact fun _ _ _ h => h
  case hy1 =>
    refine Or.inl ⟨by rfl, ?_⟩
    intro W _
    go_simp
    try with_reducible rfl
  try simp only [Act.put, List.setIfInBounds_toArray, List.set_cons_zero, List.set_cons_succ]
  refine' wpAnyH_take (i := 2) (oi := _) (v := _) ?hi2 (by kernel_rfl) ?hf2 ?hr2 ?hQ2 ?hy2 trivial ?rest2
  case hi2 => (simp only [List.getElem?_toArray, List.getElem?_cons_zero, List.getElem?_cons_succ]; rfl)
  case hf2 => kernel_rfl
  case hr2 => kernel_rfl
  case hQ2 => exact fun _ _ _ h => h
  case hy2 =>
    refine Or.inl ⟨by rfl, ?_⟩
    intro W _
    go_simp
    try with_reducible rfl
  try simp only [Act.put, List.setIfInBounds_toArray, List.set_cons_zero, List.set_cons_succ]
  refine' wpAnyH_take (i := 3) (oi := _) (v := _) ?hi3 (by kernel_rfl) ?hf3 ?hr3 ?hQ3 ?hy3 trivial ?rest3
  case hi3 => (simp only [List.getElem?_toArray, List.getElem?_cons_zero, List.getElem?_cons_succ]; rfl)
  case hf3 => kernel_rfl
  case hr3 => kernel_rfl
  case hQ3 => exact fun _ _ _ h => h
  case hy3 =>
    refine Or.inl ⟨by rfl, ?_⟩
    intro W _
    go_simp
    try with_reducible rfl
  try simp only [Act.put, List.setIfInBounds_toArray, List.set_cons_zero, List.set_cons_succ]
  refine' wpAnyH_take (i := 4) (oi := _) (v := _) ?hi4 (by kernel_rfl) ?hf4 ?hr4 ?hQ4 ?hy4 trivial ?rest4
  case hi4 => (simp only [List.getElem?_toArray, List.getElem?_cons_zero, List.getElem?_cons_succ]; rfl)
  case hf4 => kernel_rfl
  case hr4 => kernel_rfl
  case hQ4 => exact fun _ _ _ h => h
  case hy4 =>
    refine Or.inl ⟨by rfl, ?_⟩
    intro W _
    go_simp
    try with_reducible rfl
  try simp only [Act.put, List.setIfInBounds_toArray, List.set_cons_zero, List.set_cons_succ]
  refine' wpAnyH_take (i := 5) (oi := _) (v := _) ?hi5 (by kernel_rfl) ?hf5 ?hr5 ?hQ5 ?hy5 trivial ?rest5
  case hi5 => (simp only [List.getElem?_toArray, List.getElem?_cons_zero, List.getElem?_cons_succ]; rfl)
  case hf5 => kernel_rfl
  case hr5 => kernel_rfl
  case hQ5 => exact fun _ _ _ h => h
  case hy5 =>
    refine Or.inl ⟨by rfl, ?_⟩
    intro W _
    go_simp
    try with_reducible rfl
  try simp only [Act.put, List.setIfInBounds_toArray, List.set_cons_zero, List.set_cons_succ]
  refine' wpAnyH_take (i := 7) (oi := _) (v := _) ?hi7 (by kernel_rfl) ?hf7 ?hr7 ?hQ7 ?hy7 trivial ?rest7
  case hi7 => (simp only [List.getElem?_toArray, List.getElem?_cons_zero, List.getElem?_cons_succ]; rfl)
  case hf7 => kernel_rfl
  case hr7 => kernel_rfl
  case hQ7 => exact fun _ _ _ h => h
  case hy7 =>
    refine Or.inl ⟨by rfl, ?_⟩
    intro W _
    go_simp
    try with_reducible rfl
  try simp only [Act.put, List.setIfInBounds_toArray, List.set_cons_zero, List.set_cons_succ]
  refine' wpAnyH_take (i := 8) (oi := _) (v := _) ?hi8 (by kernel_rfl) ?hf8 ?hr8 ?hQ8 ?hy8 trivial ?rest8
  case hi8 => (simp only [List.getElem?_toArray, List.getElem?_cons_zero, List.getElem?_cons_succ]; rfl)
  case hf8 => kernel_rfl
  case hr8 => kernel_rfl
  case hQ8 => exact fun _ _ _ h => h
  case hy8 =>
    refine Or.inl ⟨by rfl, ?_⟩
    intro W _
    go_simp
    try with_reducible rfl
  try simp only [Act.put, List.setIfInBounds_toArray, List.set_cons_zero, List.set_cons_succ]
  refine' wpAnyH_take (i := 9) (oi := _) (v := _) ?hi9 (by kernel_rfl) ?hf9 ?hr9 ?hQ9 ?hy9 trivial ?rest9
  case hi9 => (simp only [List.getElem?_toArray, List.getElem?_cons_zero, List.getElem?_cons_succ]; rfl)
  case hf9 => kernel_rfl
  case hr9 => kernel_rfl
  case hQ9 => exact fun _ _ _ h => h
  case hy9 =>
    refine Or.inl ⟨by rfl, ?_⟩
    intro W _
    go_simp
    try with_reducible rfl
  try simp only [Act.put, List.setIfInBounds_toArray, List.set_cons_zero, List.set_cons_succ]
  refine wpAnyH_ready (rs := [6]) (by kernel_rfl) (by simp) ?_
  refine' AllReadyH.cons (o := _) ?hi6 (fun K hK => ?_) AllReadyH.nil
  case hi6 => (simp only [List.getElem?_toArray, List.getElem?_cons_zero, List.getElem?_cons_succ]; rfl)
  go_simp
  refine CI.out.mono ?_
  rintro e w2 ⟨A2, c2, rfl, ho2, hb2⟩
  have HO2 := Lib.hid (And.intro ho2 hb2)
  clear ho2 hb2
  refine hK.out _ _ trivial (fun _ => ?_)
  clear hK K
  try simp only [Act.put, List.setIfInBounds_toArray, List.set_cons_zero, List.set_cons_succ]
  refine wpAnyH_ready (rs := [10]) (by kernel_rfl) (by simp) ?_
  refine' AllReadyH.cons (o := _) ?hi10 (fun K hK => ?_) AllReadyH.nil
  case hi10 => (simp only [List.getElem?_toArray, List.getElem?_cons_zero, List.getElem?_cons_succ]; rfl)
  go_simp
  refine (CR.out w2 HO2.out.2).mono ?_
  rintro e w3 ⟨rfl, hb3⟩
  have b3 := below_on HO2.out.2 (Nat.le_refl _) hb3
  have o3 := own_on HO2.out.1 hb3
  have o4 := own_on o3 (below_alloc w3 (.cells (bvs R).toArray 25))
  have b4 := b3.alloc b3.size (.cells (bvs R).toArray 25)
  have i4 : InS (w3.alloc (.cells (bvs R).toArray 25)) (some ⟨w3.heap.size, 0, none⟩) 1 R := InS.of_own (own_sum w3 R 0 hRl (Nat.zero_le _))
  have H4 := Lib.hid (And.intro o4 (And.intro b4 i4))
  clear b3 o3 o4 b4 i4 hb3
  refine hK.out _ _ trivial (fun _ => ?_)
  clear hK K
  try simp only [Act.put, List.setIfInBounds_toArray, List.set_cons_zero, List.set_cons_succ]
  refine wpAnyH_ready (rs := [11]) (by kernel_rfl) (by simp) ?_
  refine' AllReadyH.cons (o := _) ?hi11 (fun K hK => ?_) AllReadyH.nil
  case hi11 => (simp only [List.getElem?_toArray, List.getElem?_cons_zero, List.getElem?_cons_succ]; rfl)
  rw [if_pos (by rfl)]
  refine wp_sums _ [R] 1 rfl rfl (by simp <;> rfl) (by intro q hq; simp at hq; rw [hq]; exact hRl) (by omega) (by omega) ?_
  rw [show [R].flatten = R by simp]
  refine hK.out _ _ trivial (fun _ => ?_)
  clear hK K
  try simp only [Act.put, List.setIfInBounds_toArray, List.set_cons_zero, List.set_cons_succ]
  refine wpAnyH_ready (rs := [12]) (by kernel_rfl) (by simp) ?_
  refine' AllReadyH.cons (o := _) ?hi12 (fun K hK => ?_) AllReadyH.nil
  case hi12 => (simp only [List.getElem?_toArray, List.getElem?_cons_zero, List.getElem?_cons_succ]; rfl)
  refine step_sapp (K := K) (by rfl) _ _ (by rfl) w1.heap.size A2 d c2 L (by rfl) H4.out.1 (some ⟨w3.heap.size, 0, none⟩) 1 1 R (by rfl) H4.out.2.2 (fun h => by cases h) hd9 H4.out.2.1.size ?_
  intro A5 c5 w5 o5 nx5
  refine hK.out _ _ trivial (fun _ => ?_)
  clear hK K
  try simp only [Act.put, List.setIfInBounds_toArray, List.set_cons_zero, List.set_cons_succ]
  refine' wpAnyH_take (i := 13) (oi := _) (v := _) ?hi13 (by kernel_rfl) ?hf13 ?hr13 ?hQ13 ?hy13 trivial ?rest13
  case hi13 => (simp only [List.getElem?_toArray, List.getElem?_cons_zero, List.getElem?_cons_succ]; rfl)
  case hf13 => kernel_rfl
  case hr13 => kernel_rfl
  case hQ13 => exact fun _ _ _ h => h
  case hy13 =>
    refine Or.inl ⟨by rfl, ?_⟩
    intro W _
    go_simp
    try with_reducible rfl
  try simp only [Act.put, List.setIfInBounds_toArray, List.set_cons_zero, List.set_cons_succ]
  refine wpAnyH_done (by kernel_rfl) ?_ _
  go_wp2
  go_ret
  exact ⟨A5, c5, rfl, o5, nx5.below H4.out.1 H4.out.2.1 (Nat.le_refl _) H4.out.2.1.size⟩

end

end Go.Proofs.YtilgikhdamkeoaaGreatDoor

/-
  almonerref11.link, one step.
-/
namespace Go.Proofs.YtilgikhdamkeoaaGreatDoor
open Go.RowKit

section
variable {w : World} {n c from_ : Nat} {A : Option Addr} {ys : List Nat} {edge : Bool}

set_option maxRecDepth 100000 in
set_option maxHeartbeats 1000000 in
theorem refLink_edge (hf : from_ = n) : Calls Tryz.prog 14 #[.slice A n c, .int .i64 (from_ : Int), .bool true] w (GivesS w.heap.size w 0 []) := by
  subst hf
  have hq : ((from_ : Int) == (from_ : Int)) = true := by simp
  go_enter Tryz.func14, Tryz.ntmps14
  go_wp2_with fail
  go_ret
  exact ⟨none, 0, rfl, own_none _ _ _ _, Below.refl _ _⟩

set_option maxRecDepth 100000 in
set_option maxHeartbeats 1000000 in
theorem refLink_root {R : List Nat} (hf : from_ = n) (hRl : R.length = 32) (cr : Calls Tryz.prog 48 #[.slice A n c] w fun e w' => e = .returned (sv R) ∧ Below w.heap.size w w') :
    Calls Tryz.prog 14 #[.slice A n c, .int .i64 (from_ : Int), .bool false] w (GivesS w.heap.size w 1 R) := by
  subst hf
  have hq : ((from_ : Int) == (from_ : Int)) = true := by simp
  go_enter Tryz.func14, Tryz.ntmps14
  go_wp2_with fail
  refine cr.mono ?_
  rintro e w1 ⟨rfl, hb1⟩
  have HB := Lib.hid hb1
  clear hb1
  go_wp2_with (refine wpList_one_sum rfl _ R rfl (by simp <;> rfl) hRl ?_)
  go_ret
  exact ⟨some ⟨w1.heap.size, 0, none⟩, 1, rfl, own_sum w1 R w.heap.size hRl HB.out.size, below_on HB.out (Nat.le_refl _) (below_alloc w1 _)⟩

set_option maxRecDepth 100000 in
set_option maxHeartbeats 4000000 in
theorem refLink_low {ad : Addr} {k m d : Nat} {L R : List Nat} (hc : n ≤ c) (hn : n ≤ 65536) (h2 : 2 ≤ n) (hfn : from_ < n) (hk0 : cutN n = k) (hm0 : n - k = m) (ha : from_ ≤ k) (hd : d ≤ 100) (hRl : R.length = 32)
    (ci : Calls Tryz.prog 14 #[.slice (some ad) k c, .int .i64 (from_ : Int), .bool edge] w.drew (GivesS w.heap.size w d L))
    (cr : ∀ W : World, Below w.heap.size w W → Calls Tryz.prog 48 #[.slice (some (ad.add (k * 32))) m (c - k)] W fun e w' => e = .returned (sv R) ∧ Below W.heap.size W w') :
    Calls Tryz.prog 14 #[.slice (some ad) n c, .int .i64 (from_ : Int), .bool edge] w (GivesS w.heap.size w (d + 1) (L ++ R)) := by
  have hcl := cutN_lt h2
  have hcp := cutN_pos n
  rw [hk0] at hcl hcp
  have hk65 : k ≤ 65536 := by omega
  have hne : ((from_ : Int) == (n : Int)) = false := by simp; omega
  have hai : (from_ : Int) ≤ (k : Int) := by omega
  have CM := Lib.hid (refCut_all n w h2 (by omega))
  rw [hk0] at CM
  have ht := run_take_sums (ad := ad) (n := n) (c := c) (k := k) (by omega) hc
  have hr := run_drop_sums (ad := ad) (n := n) (c := c) (k := k) hcl hc
  rw [hm0] at hr
  have CI := Lib.hid ci
  have CR := Lib.hid cr
  have HD := Lib.hid hd
  have hd9 : d + 1 ≤ 1000000000 := by omega
  have wn : IntKind.u64.wrap (n : Int) = (n : Int) := by rw [IntKind.wrap_u64]; omega
  have wk : IntKind.i64.wrap (k : Int) = (k : Int) := kwrapI hk65
  have wk2 : wrap64 (k : Int) = (k : Int) := kwrap64 hk65
  clear ci cr hcl hcp hc hn h2 hk0 hm0 hd ha hfn hk65
  go_enter Tryz.func14, Tryz.ntmps14
  go_wp2_with fail
  refine CM.out.mono ?_
  rintro e w1 ⟨rfl, hww⟩
  subst hww
  go_upto_region 7 with fail
  refine wp_region_held (S := fun _ => True) (by kernel_rfl) ?_
  change wpAnyH _ _ _ _ _ _ _ _ w1.drew
  refine' wpAnyH_take (i := 0) (oi := _) (v := _) ?hi0 (by kernel_rfl) ?hf0 ?hr0 ?hQ0 ?hy0 trivial ?rest0
  case hi0 => (simp only [List.getElem?_toArray, List.getElem?_cons_zero]; rfl)
  case hf0 => kernel_rfl
  case hr0 => kernel_rfl
  case hQ0 => exact fun _ _ _ h => h
  case hy0 =>
    refine Or.inl ⟨by rfl, ?_⟩
    intro W _
    go_simp
    try with_reducible rfl
  try simp only [Act.put, List.setIfInBounds_toArray, List.set_cons_zero, List.set_cons_succ]
  refine' wpAnyH_take (i := 1) (oi := _) (v := _) ?hi1 (by kernel_rfl) ?hf1 ?hr1 ?hQ1 ?hy1 trivial ?rest1
  case hi1 => (simp only [List.getElem?_toArray, List.getElem?_cons_zero, List.getElem?_cons_succ]; rfl)
  case hf1 => kernel_rfl
  case hr1 => kernel_rfl
  case hQ1 => exact fun _ _ _ h => h
  case hy1 =>
    refine Or.inl ⟨by rfl, ?_⟩
    intro W _
    go_simp
    try with_reducible rfl
  try simp only [Act.put, List.setIfInBounds_toArray, List.set_cons_zero, List.set_cons_succ]
  refine' wpAnyH_take (i := 2) (oi := _) (v := _) ?hi2 (by kernel_rfl) ?hf2 ?hr2 ?hQ2 ?hy2 trivial ?rest2
  case hi2 => (simp only [List.getElem?_toArray, List.getElem?_cons_zero, List.getElem?_cons_succ]; rfl)
  case hf2 => kernel_rfl
  case hr2 => kernel_rfl
  case hQ2 => exact fun _ _ _ h => h
  case hy2 =>
    refine Or.inl ⟨by rfl, ?_⟩
    intro W _
    go_simp
    try with_reducible rfl
  try simp only [Act.put, List.setIfInBounds_toArray, List.set_cons_zero, List.set_cons_succ]
  refine' wpAnyH_take (i := 3) (oi := _) (v := _) ?hi3 (by kernel_rfl) ?hf3 ?hr3 ?hQ3 ?hy3 trivial ?rest3
  case hi3 => (simp only [List.getElem?_toArray, List.getElem?_cons_zero, List.getElem?_cons_succ]; rfl)
  case hf3 => kernel_rfl
  case hr3 => kernel_rfl
  case hQ3 => exact fun _ _ _ h => h
  case hy3 =>
    refine Or.inl ⟨by rfl, ?_⟩
    intro W _
    go_simp
    try with_reducible rfl
  try simp only [Act.put, List.setIfInBounds_toArray, List.set_cons_zero, List.set_cons_succ]
  refine' wpAnyH_take (i := 4) (oi := _) (v := _) ?hi4 (by kernel_rfl) ?hf4 ?hr4 ?hQ4 ?hy4 trivial ?rest4
  case hi4 => (simp only [List.getElem?_toArray, List.getElem?_cons_zero, List.getElem?_cons_succ]; rfl)
  case hf4 => kernel_rfl
  case hr4 => kernel_rfl
  case hQ4 => exact fun _ _ _ h => h
  case hy4 =>
    refine Or.inl ⟨by rfl, ?_⟩
    intro W _
    go_simp
    try with_reducible rfl
  try simp only [Act.put, List.setIfInBounds_toArray, List.set_cons_zero, List.set_cons_succ]
  refine' wpAnyH_take (i := 6) (oi := _) (v := _) ?hi6 (by kernel_rfl) ?hf6 ?hr6 ?hQ6 ?hy6 trivial ?rest6
  case hi6 => (simp only [List.getElem?_toArray, List.getElem?_cons_zero, List.getElem?_cons_succ]; rfl)
  case hf6 => kernel_rfl
  case hr6 => kernel_rfl
  case hQ6 => exact fun _ _ _ h => h
  case hy6 =>
    refine Or.inl ⟨by rfl, ?_⟩
    intro W _
    go_simp
    try with_reducible rfl
  try simp only [Act.put, List.setIfInBounds_toArray, List.set_cons_zero, List.set_cons_succ]
  refine' wpAnyH_take (i := 7) (oi := _) (v := _) ?hi7 (by kernel_rfl) ?hf7 ?hr7 ?hQ7 ?hy7 trivial ?rest7
  case hi7 => (simp only [List.getElem?_toArray, List.getElem?_cons_zero, List.getElem?_cons_succ]; rfl)
  case hf7 => kernel_rfl
  case hr7 => kernel_rfl
  case hQ7 => exact fun _ _ _ h => h
  case hy7 =>
    refine Or.inl ⟨by rfl, ?_⟩
    intro W _
    go_simp
    try with_reducible rfl
  try simp only [Act.put, List.setIfInBounds_toArray, List.set_cons_zero, List.set_cons_succ]
  refine' wpAnyH_take (i := 8) (oi := _) (v := _) ?hi8 (by kernel_rfl) ?hf8 ?hr8 ?hQ8 ?hy8 trivial ?rest8
  case hi8 => (simp only [List.getElem?_toArray, List.getElem?_cons_zero, List.getElem?_cons_succ]; rfl)
  case hf8 => kernel_rfl
  case hr8 => kernel_rfl
  case hQ8 => exact fun _ _ _ h => h
  case hy8 =>
    refine Or.inl ⟨by rfl, ?_⟩
    intro W _
    go_simp
    try with_reducible rfl
  try simp only [Act.put, List.setIfInBounds_toArray, List.set_cons_zero, List.set_cons_succ]
  refine wpAnyH_ready (rs := [5]) (by kernel_rfl) (by simp) ?_
  refine' AllReadyH.cons (o := _) ?hi5 (fun K hK => ?_) AllReadyH.nil
  case hi5 => (simp only [List.getElem?_toArray, List.getElem?_cons_zero, List.getElem?_cons_succ]; rfl)
  go_simp
  refine CI.out.mono ?_
  rintro e w2 ⟨A2, c2, rfl, ho2, hb2⟩
  have HO2 := Lib.hid (And.intro ho2 hb2)
  clear ho2 hb2
  refine hK.out _ _ trivial (fun _ => ?_)
  clear hK K
  try simp only [Act.put, List.setIfInBounds_toArray, List.set_cons_zero, List.set_cons_succ]
  refine wpAnyH_ready (rs := [9]) (by kernel_rfl) (by simp) ?_
  refine' AllReadyH.cons (o := _) ?hi9 (fun K hK => ?_) AllReadyH.nil
  case hi9 => (simp only [List.getElem?_toArray, List.getElem?_cons_zero, List.getElem?_cons_succ]; rfl)
  go_simp
  refine (CR.out w2 HO2.out.2).mono ?_
  rintro e w3 ⟨rfl, hb3⟩
  have b3 := below_on HO2.out.2 (Nat.le_refl _) hb3
  have o3 := own_on HO2.out.1 hb3
  have o4 := own_on o3 (below_alloc w3 (.cells (bvs R).toArray 25))
  have b4 := b3.alloc b3.size (.cells (bvs R).toArray 25)
  have i4 : InS (w3.alloc (.cells (bvs R).toArray 25)) (some ⟨w3.heap.size, 0, none⟩) 1 R := InS.of_own (own_sum w3 R 0 hRl (Nat.zero_le _))
  have H4 := Lib.hid (And.intro o4 (And.intro b4 i4))
  clear b3 o3 o4 b4 i4 hb3
  refine hK.out _ _ trivial (fun _ => ?_)
  clear hK K
  try simp only [Act.put, List.setIfInBounds_toArray, List.set_cons_zero, List.set_cons_succ]
  refine wpAnyH_ready (rs := [10]) (by kernel_rfl) (by simp) ?_
  refine' AllReadyH.cons (o := _) ?hi10 (fun K hK => ?_) AllReadyH.nil
  case hi10 => (simp only [List.getElem?_toArray, List.getElem?_cons_zero, List.getElem?_cons_succ]; rfl)
  rw [if_pos (by rfl)]
  refine wp_sums _ [R] 1 rfl rfl (by simp <;> rfl) (by intro q hq; simp at hq; rw [hq]; exact hRl) (by omega) (by omega) ?_
  rw [show [R].flatten = R by simp]
  refine hK.out _ _ trivial (fun _ => ?_)
  clear hK K
  try simp only [Act.put, List.setIfInBounds_toArray, List.set_cons_zero, List.set_cons_succ]
  refine wpAnyH_ready (rs := [11]) (by kernel_rfl) (by simp) ?_
  refine' AllReadyH.cons (o := _) ?hi11 (fun K hK => ?_) AllReadyH.nil
  case hi11 => (simp only [List.getElem?_toArray, List.getElem?_cons_zero, List.getElem?_cons_succ]; rfl)
  refine step_sapp (K := K) (by rfl) _ _ (by rfl) w1.heap.size A2 d c2 L (by rfl) H4.out.1 (some ⟨w3.heap.size, 0, none⟩) 1 1 R (by rfl) H4.out.2.2 (fun h => by cases h) hd9 H4.out.2.1.size ?_
  intro A5 c5 w5 o5 nx5
  refine hK.out _ _ trivial (fun _ => ?_)
  clear hK K
  try simp only [Act.put, List.setIfInBounds_toArray, List.set_cons_zero, List.set_cons_succ]
  refine' wpAnyH_take (i := 12) (oi := _) (v := _) ?hi12 (by kernel_rfl) ?hf12 ?hr12 ?hQ12 ?hy12 trivial ?rest12
  case hi12 => (simp only [List.getElem?_toArray, List.getElem?_cons_zero, List.getElem?_cons_succ]; rfl)
  case hf12 => kernel_rfl
  case hr12 => kernel_rfl
  case hQ12 => exact fun _ _ _ h => h
  case hy12 =>
    refine Or.inl ⟨by rfl, ?_⟩
    intro W _
    go_simp
    try with_reducible rfl
  try simp only [Act.put, List.setIfInBounds_toArray, List.set_cons_zero, List.set_cons_succ]
  refine wpAnyH_done (by kernel_rfl) ?_ _
  go_wp2
  go_ret
  exact ⟨A5, c5, rfl, o5, nx5.below H4.out.1 H4.out.2.1 (Nat.le_refl _) H4.out.2.1.size⟩

set_option maxRecDepth 100000 in
set_option maxHeartbeats 4000000 in
theorem refLink_high {ad : Addr} {k m a d : Nat} {L R : List Nat} (hc : n ≤ c) (hn : n ≤ 65536) (h2 : 2 ≤ n) (hfn : from_ < n) (hk0 : cutN n = k) (hm0 : n - k = m) (ha : ¬ from_ ≤ k) (ha0 : from_ - k = a) (hd : d ≤ 100) (hRl : R.length = 32)
    (ci : Calls Tryz.prog 14 #[.slice (some (ad.add (k * 32))) m (c - k), .int .i64 (a : Int), .bool false] w.drew (GivesS w.heap.size w d L))
    (cr : ∀ W : World, Below w.heap.size w W → Calls Tryz.prog 48 #[.slice (some ad) k c] W fun e w' => e = .returned (sv R) ∧ Below W.heap.size W w') :
    Calls Tryz.prog 14 #[.slice (some ad) n c, .int .i64 (from_ : Int), .bool edge] w (GivesS w.heap.size w (d + 1) (L ++ R)) := by
  have hcl := cutN_lt h2
  have hcp := cutN_pos n
  rw [hk0] at hcl hcp
  have hk65 : k ≤ 65536 := by omega
  have ha65 : a ≤ 65536 := by omega
  have hne : ((from_ : Int) == (n : Int)) = false := by simp; omega
  have hai : ¬ (from_ : Int) ≤ (k : Int) := by omega
  have CM := Lib.hid (refCut_all n w h2 (by omega))
  rw [hk0] at CM
  have ht := run_take_sums (ad := ad) (n := n) (c := c) (k := k) (by omega) hc
  have hr := run_drop_sums (ad := ad) (n := n) (c := c) (k := k) hcl hc
  rw [hm0] at hr
  have CI := Lib.hid ci
  have CR := Lib.hid cr
  have HD := Lib.hid hd
  have hd9 : d + 1 ≤ 1000000000 := by omega
  have wn : IntKind.u64.wrap (n : Int) = (n : Int) := by rw [IntKind.wrap_u64]; omega
  have wk : IntKind.i64.wrap (k : Int) = (k : Int) := kwrapI hk65
  have ea : (from_ : Int) - (k : Int) = (a : Int) := by omega
  have wa : wrap64 (a : Int) = (a : Int) := kwrap64 ha65
  have wa2 : IntKind.i64.wrap (a : Int) = (a : Int) := kwrapI ha65
  have wk2 : wrap64 (k : Int) = (k : Int) := kwrap64 hk65
  clear ci cr hcl hcp hc hn h2 hk0 hm0 hd ha hfn hk65 ha0 ha65
  go_enter Tryz.func14, Tryz.ntmps14
  go_wp2_with fail
  refine CM.out.mono ?_
  rintro e w1 ⟨rfl, hww⟩
  subst hww
  go_upto_region 8 with fail
  refine wp_region_held (S := fun _ => True) (by kernel_rfl) ?_
  change wpAnyH _ _ _ _ _ _ _ _ w1.drew
  refine' wpAnyH_take (i := 0) (oi := _) (v := _) ?hi0 (by kernel_rfl) ?hf0 ?hr0 ?hQ0 ?hy0 trivial ?rest0
  case hi0 => (simp only [List.getElem?_toArray, List.getElem?_cons_zero]; rfl)
  case hf0 => kernel_rfl
  case hr0 => kernel_rfl
  case hQ0 => exact fun _ _ _ h => h
  case hy0 =>
    refine Or.inl ⟨by rfl, ?_⟩
    intro W _
    go_simp
    try with_reducible rfl
  try simp only [Act.put, List.setIfInBounds_toArray, List.set_cons_zero, List.set_cons_succ]
  refine' wpAnyH_take (i := 1) (oi := _) (v := _) ?hi1 (by kernel_rfl) ?hf1 ?hr1 ?hQ1 ?hy1 trivial ?rest1
  case hi1 => (simp only [List.getElem?_toArray, List.getElem?_cons_zero, List.getElem?_cons_succ]; rfl)
  case hf1 => kernel_rfl
  case hr1 => kernel_rfl
  case hQ1 => exact fun _ _ _ h => h
  case hy1 =>
    refine Or.inl ⟨by rfl, ?_⟩
    intro W _
    go_simp
    try with_reducible rfl
  try simp only [Act.put, List.setIfInBounds_toArray, List.set_cons_zero, List.set_cons_succ]
  refine' wpAnyH_take (i := 2) (oi := _) (v := _) ?hi2 (by kernel_rfl) ?hf2 ?hr2 ?hQ2 ?hy2 trivial ?rest2
  case hi2 => (simp only [List.getElem?_toArray, List.getElem?_cons_zero, List.getElem?_cons_succ]; rfl)
  case hf2 => kernel_rfl
  case hr2 => kernel_rfl
  case hQ2 => exact fun _ _ _ h => h
  case hy2 =>
    refine Or.inl ⟨by rfl, ?_⟩
    intro W _
    go_simp
    try with_reducible rfl
  try simp only [Act.put, List.setIfInBounds_toArray, List.set_cons_zero, List.set_cons_succ]
  refine' wpAnyH_take (i := 3) (oi := _) (v := _) ?hi3 (by kernel_rfl) ?hf3 ?hr3 ?hQ3 ?hy3 trivial ?rest3
  case hi3 => (simp only [List.getElem?_toArray, List.getElem?_cons_zero, List.getElem?_cons_succ]; rfl)
  case hf3 => kernel_rfl
  case hr3 => kernel_rfl
  case hQ3 => exact fun _ _ _ h => h
  case hy3 =>
    refine Or.inl ⟨by rfl, ?_⟩
    intro W _
    go_simp
    try with_reducible rfl
  try simp only [Act.put, List.setIfInBounds_toArray, List.set_cons_zero, List.set_cons_succ]
  refine' wpAnyH_take (i := 4) (oi := _) (v := _) ?hi4 (by kernel_rfl) ?hf4 ?hr4 ?hQ4 ?hy4 trivial ?rest4
  case hi4 => (simp only [List.getElem?_toArray, List.getElem?_cons_zero, List.getElem?_cons_succ]; rfl)
  case hf4 => kernel_rfl
  case hr4 => kernel_rfl
  case hQ4 => exact fun _ _ _ h => h
  case hy4 =>
    refine Or.inl ⟨by rfl, ?_⟩
    intro W _
    go_simp
    try with_reducible rfl
  try simp only [Act.put, List.setIfInBounds_toArray, List.set_cons_zero, List.set_cons_succ]
  refine' wpAnyH_take (i := 5) (oi := _) (v := _) ?hi5 (by kernel_rfl) ?hf5 ?hr5 ?hQ5 ?hy5 trivial ?rest5
  case hi5 => (simp only [List.getElem?_toArray, List.getElem?_cons_zero, List.getElem?_cons_succ]; rfl)
  case hf5 => kernel_rfl
  case hr5 => kernel_rfl
  case hQ5 => exact fun _ _ _ h => h
  case hy5 =>
    refine Or.inl ⟨by rfl, ?_⟩
    intro W _
    go_simp
    try with_reducible rfl
  try simp only [Act.put, List.setIfInBounds_toArray, List.set_cons_zero, List.set_cons_succ]
  refine' wpAnyH_take (i := 7) (oi := _) (v := _) ?hi7 (by kernel_rfl) ?hf7 ?hr7 ?hQ7 ?hy7 trivial ?rest7
  case hi7 => (simp only [List.getElem?_toArray, List.getElem?_cons_zero, List.getElem?_cons_succ]; rfl)
  case hf7 => kernel_rfl
  case hr7 => kernel_rfl
  case hQ7 => exact fun _ _ _ h => h
  case hy7 =>
    refine Or.inl ⟨by rfl, ?_⟩
    intro W _
    go_simp
    try with_reducible rfl
  try simp only [Act.put, List.setIfInBounds_toArray, List.set_cons_zero, List.set_cons_succ]
  refine' wpAnyH_take (i := 8) (oi := _) (v := _) ?hi8 (by kernel_rfl) ?hf8 ?hr8 ?hQ8 ?hy8 trivial ?rest8
  case hi8 => (simp only [List.getElem?_toArray, List.getElem?_cons_zero, List.getElem?_cons_succ]; rfl)
  case hf8 => kernel_rfl
  case hr8 => kernel_rfl
  case hQ8 => exact fun _ _ _ h => h
  case hy8 =>
    refine Or.inl ⟨by rfl, ?_⟩
    intro W _
    go_simp
    try with_reducible rfl
  try simp only [Act.put, List.setIfInBounds_toArray, List.set_cons_zero, List.set_cons_succ]
  refine' wpAnyH_take (i := 9) (oi := _) (v := _) ?hi9 (by kernel_rfl) ?hf9 ?hr9 ?hQ9 ?hy9 trivial ?rest9
  case hi9 => (simp only [List.getElem?_toArray, List.getElem?_cons_zero, List.getElem?_cons_succ]; rfl)
  case hf9 => kernel_rfl
  case hr9 => kernel_rfl
  case hQ9 => exact fun _ _ _ h => h
  case hy9 =>
    refine Or.inl ⟨by rfl, ?_⟩
    intro W _
    go_simp
    try with_reducible rfl
  try simp only [Act.put, List.setIfInBounds_toArray, List.set_cons_zero, List.set_cons_succ]
  refine wpAnyH_ready (rs := [6]) (by kernel_rfl) (by simp) ?_
  refine' AllReadyH.cons (o := _) ?hi6 (fun K hK => ?_) AllReadyH.nil
  case hi6 => (simp only [List.getElem?_toArray, List.getElem?_cons_zero, List.getElem?_cons_succ]; rfl)
  go_simp
  refine CI.out.mono ?_
  rintro e w2 ⟨A2, c2, rfl, ho2, hb2⟩
  have HO2 := Lib.hid (And.intro ho2 hb2)
  clear ho2 hb2
  refine hK.out _ _ trivial (fun _ => ?_)
  clear hK K
  try simp only [Act.put, List.setIfInBounds_toArray, List.set_cons_zero, List.set_cons_succ]
  refine wpAnyH_ready (rs := [10]) (by kernel_rfl) (by simp) ?_
  refine' AllReadyH.cons (o := _) ?hi10 (fun K hK => ?_) AllReadyH.nil
  case hi10 => (simp only [List.getElem?_toArray, List.getElem?_cons_zero, List.getElem?_cons_succ]; rfl)
  go_simp
  refine (CR.out w2 HO2.out.2).mono ?_
  rintro e w3 ⟨rfl, hb3⟩
  have b3 := below_on HO2.out.2 (Nat.le_refl _) hb3
  have o3 := own_on HO2.out.1 hb3
  have o4 := own_on o3 (below_alloc w3 (.cells (bvs R).toArray 25))
  have b4 := b3.alloc b3.size (.cells (bvs R).toArray 25)
  have i4 : InS (w3.alloc (.cells (bvs R).toArray 25)) (some ⟨w3.heap.size, 0, none⟩) 1 R := InS.of_own (own_sum w3 R 0 hRl (Nat.zero_le _))
  have H4 := Lib.hid (And.intro o4 (And.intro b4 i4))
  clear b3 o3 o4 b4 i4 hb3
  refine hK.out _ _ trivial (fun _ => ?_)
  clear hK K
  try simp only [Act.put, List.setIfInBounds_toArray, List.set_cons_zero, List.set_cons_succ]
  refine wpAnyH_ready (rs := [11]) (by kernel_rfl) (by simp) ?_
  refine' AllReadyH.cons (o := _) ?hi11 (fun K hK => ?_) AllReadyH.nil
  case hi11 => (simp only [List.getElem?_toArray, List.getElem?_cons_zero, List.getElem?_cons_succ]; rfl)
  rw [if_pos (by rfl)]
  refine wp_sums _ [R] 1 rfl rfl (by simp <;> rfl) (by intro q hq; simp at hq; rw [hq]; exact hRl) (by omega) (by omega) ?_
  rw [show [R].flatten = R by simp]
  refine hK.out _ _ trivial (fun _ => ?_)
  clear hK K
  try simp only [Act.put, List.setIfInBounds_toArray, List.set_cons_zero, List.set_cons_succ]
  refine wpAnyH_ready (rs := [12]) (by kernel_rfl) (by simp) ?_
  refine' AllReadyH.cons (o := _) ?hi12 (fun K hK => ?_) AllReadyH.nil
  case hi12 => (simp only [List.getElem?_toArray, List.getElem?_cons_zero, List.getElem?_cons_succ]; rfl)
  refine step_sapp (K := K) (by rfl) _ _ (by rfl) w1.heap.size A2 d c2 L (by rfl) H4.out.1 (some ⟨w3.heap.size, 0, none⟩) 1 1 R (by rfl) H4.out.2.2 (fun h => by cases h) hd9 H4.out.2.1.size ?_
  intro A5 c5 w5 o5 nx5
  refine hK.out _ _ trivial (fun _ => ?_)
  clear hK K
  try simp only [Act.put, List.setIfInBounds_toArray, List.set_cons_zero, List.set_cons_succ]
  refine' wpAnyH_take (i := 13) (oi := _) (v := _) ?hi13 (by kernel_rfl) ?hf13 ?hr13 ?hQ13 ?hy13 trivial ?rest13
  case hi13 => (simp only [List.getElem?_toArray, List.getElem?_cons_zero, List.getElem?_cons_succ]; rfl)
  case hf13 => kernel_rfl
  case hr13 => kernel_rfl
  case hQ13 => exact fun _ _ _ h => h
  case hy13 =>
    refine Or.inl ⟨by rfl, ?_⟩
    intro W _
    go_simp
    try with_reducible rfl
  try simp only [Act.put, List.setIfInBounds_toArray, List.set_cons_zero, List.set_cons_succ]
  refine wpAnyH_done (by kernel_rfl) ?_ _
  go_wp2
  go_ret
  exact ⟨A5, c5, rfl, o5, nx5.below H4.out.1 H4.out.2.1 (Nat.le_refl _) H4.out.2.1.size⟩

end

end Go.Proofs.YtilgikhdamkeoaaGreatDoor

/-
  almonerref11.link whole; almonerref11.Of.
-/
namespace Go.Proofs.YtilgikhdamkeoaaGreatDoor
open Go.RowKit

theorem refLink_any : ∀ (n from_ : Nat) (edge : Bool) (A : Option Addr) (c : Nat) (ys : List Nat) (w : World), InS w A n ys → (∀ x ∈ ys, x < 256) → n ≤ c → n ≤ 65536 → 1 ≤ from_ → from_ ≤ n →
    Calls Tryz.prog 14 #[.slice A n c, .int .i64 (from_ : Int), .bool edge] w (GivesS w.heap.size w (ldep from_ n edge) (linkL (nth ys) 0 n from_ edge).flatten) := by
  intro n
  induction n using Nat.strongRecOn with
  | ind n ih =>
    intro from_ edge A c ys w hin hy hc hn h1 hfn
    by_cases h2 : n < 2 ∨ from_ = n
    · have hf : from_ = n := by omega
      rw [ldep_all h2, linkL_all _ h2]
      cases edge with
      | true => exact refLink_edge hf
      | false =>
        simp only [Bool.false_eq_true, if_false, List.flatten_singleton]
        exact refLink_root hf (rt_length _ 0 n fun j hj => nth_length hin.len (by omega)) (refRoot_any n A c ys w hin hy hc (by omega))
    · have hcl := cutN_lt (m := n) (by omega)
      have hcp := cutN_pos n
      obtain ⟨ad, rfl⟩ := hin.some_ (by omega)
      have hd := ldep_64 (n := n) (by omega) from_ edge
      have lk : ∀ {i m : Nat}, i + m ≤ n → (rt (nth ys) i m).length = 32 := fun {i m} h => rt_length _ i m fun j hj => nth_length hin.len (by omega)
      have dr : Below w.heap.size w w.drew := (Below.refl _ w).drew
      have ytake : ∀ x ∈ ys.take (32 * cutN n), x < 256 := fun x hx => hy x (List.mem_of_mem_take hx)
      have ydrop : ∀ x ∈ ys.drop (32 * cutN n), x < 256 := fun x hx => hy x (List.mem_of_mem_drop hx)
      by_cases ha : from_ ≤ cutN n
      · rw [ldep_low h2 ha] at hd ⊢
        rw [linkL_low _ h2 ha, List.flatten_append, List.flatten_singleton, Nat.zero_add]
        refine refLink_low hc hn (by omega) (by omega) rfl rfl ha (by omega) (lk (by omega)) ?_ ?_
        · have := ih (cutN n) hcl from_ edge (some ad) c (ys.take (32 * cutN n)) w.drew ((hin.take (k := cutN n) (by omega)).below dr) ytake (by omega) (by omega) h1 ha
          rw [linkL_congr (nth (ys.take (32 * cutN n))) (nth ys) (cutN n) 0 0 from_ edge (fun j hj => by rw [Nat.zero_add]; exact nth_take hj)] at this
          exact this.mono fun e w' ⟨A', c', he, ho, hb⟩ => ⟨A', c', he, ho, dr.trans hb⟩
        · intro W hW
          have := refRoot_any (n - cutN n) (some (ad.add (cutN n * 32))) (c - cutN n) (ys.drop (32 * cutN n)) W ((hin.drop_ _ (by omega)).below hW) ydrop (by omega) (by omega)
          rw [rt_drop] at this
          exact this
      · rw [ldep_high h2 ha] at hd ⊢
        rw [linkL_high _ h2 ha, List.flatten_append, List.flatten_singleton, Nat.zero_add]
        refine refLink_high hc hn (by omega) (by omega) rfl rfl ha rfl (by omega) (lk (by omega)) ?_ ?_
        · have := ih (n - cutN n) (by omega) (from_ - cutN n) false (some (ad.add (cutN n * 32))) (c - cutN n) (ys.drop (32 * cutN n)) w.drew ((hin.drop_ (cutN n) (by omega)).below dr) ydrop (by omega) (by omega) (by omega) (by omega)
          rw [linkL_congr (nth (ys.drop (32 * cutN n))) (nth ys) (n - cutN n) 0 (cutN n) (from_ - cutN n) false (fun j hj => by rw [Nat.zero_add]; exact nth_drop _ _ _)] at this
          exact this.mono fun e w' ⟨A', c', he, ho, hb⟩ => ⟨A', c', he, ho, dr.trans hb⟩
        · intro W hW
          have := refRoot_any (cutN n) (some ad) c (ys.take (32 * cutN n)) W ((hin.take (by omega)).below hW) ytake (by omega) (by omega)
          rw [rt_take] at this
          exact this

set_option maxRecDepth 100000 in
set_option maxHeartbeats 1000000 in
/-- almonerref11.Of of no beginning. -/
theorem refKOf_no {w : World} {n c : Nat} {A : Option Addr} (z : Int) (h : z < 1 ∨ (n : Int) < z) :
    Calls Tryz.prog 6 #[.slice A n c, .int .i64 z] w fun e w' => e = .returned (.tuple #[.slice none 0 0, .int .i64 1]) ∧ w' = w := by
  by_cases h0 : z < 1
  · go_enter Tryz.func6, Tryz.ntmps6
    go_wp2_with fail
    go_ret2
    exact ⟨rfl, rfl⟩
  · have h1 : (n : Int) < z := by omega
    have hd : decide (z < 1) = false := by simp; omega
    go_enter Tryz.func6, Tryz.ntmps6
    go_wp2_with fail
    go_ret2
    exact ⟨rfl, rfl⟩

set_option maxRecDepth 100000 in
set_option maxHeartbeats 1000000 in
/-- almonerref11.Of. -/
theorem refKOf_yes {w : World} {n c from_ : Nat} {A : Option Addr} {ys : List Nat} (hin : InS w A n ys) (hy : ∀ x ∈ ys, x < 256) (hc : n ≤ c) (hn : n ≤ 65536) (h1 : 1 ≤ from_) (hfn : from_ ≤ n) :
    Calls Tryz.prog 6 #[.slice A n c, .int .i64 (from_ : Int)] w fun e w' => ∃ A' c', e = .returned (.tuple #[.slice A' (ldep from_ n true) c', .int .i64 0]) ∧ w'.ownsRow w.heap.size 25 32 (.slice A' (ldep from_ n true) c') (ldep from_ n true) (bvs (linkL (nth ys) 0 n from_ true).flatten) ∧ Below w.heap.size w w' := by
  have C := Lib.hid (refLink_any n from_ true A c ys w hin hy hc hn h1 hfn)
  have h0 : ¬ (from_ : Int) < 1 := by omega
  have hd : decide ((from_ : Int) < 1) = false := by simp; omega
  have h2 : ¬ (n : Int) < (from_ : Int) := by omega
  clear hin hy hc hn h1 hfn
  go_enter Tryz.func6, Tryz.ntmps6
  go_wp2_with fail
  refine C.out.mono ?_
  rintro e w1 ⟨A', c', rfl, ho, hb⟩
  go_wp2_with fail
  go_ret2
  exact ⟨A', c', rfl, ho, hb⟩

end Go.Proofs.YtilgikhdamkeoaaGreatDoor

/-
  The document's two sums: a struct of two, loaded, stored, made.
-/
namespace Go.Proofs.YtilgikhdamkeoaaGreatDoor
open Go.RowKit

theorem sizeBoth : (Tryz.prog.info? 56).map (·.size) = some 64 := by kernel_rfl

set_option maxRecDepth 100000 in
theorem run_load_both (w : World) (ad : Addr) (s : List Nat) (hl : s.length = 64) (hc : At w ad s) : (loadVar 56 ad).run Tryz.prog w = .ok (sv s) w := by
  have hl' : (bvs s).length = 64 := by rw [bvs_length, hl]
  have h1 : (loadCells ad (bvs s).length).run Tryz.prog w = .ok (bvs s).toArray w :=
    run_loadCells_list (P := Tryz.prog) w ad (bvs s) (fun j v hv => by
      rw [bvs_get] at hv
      obtain ⟨y, hy, rfl⟩ := Option.map_eq_some_iff.1 hv
      exact hc j y hy)
  rw [hl'] at h1
  have hagg : (isAgg 56).run Tryz.prog w = .ok true w := by
    unfold isAgg
    rw [Sem.run_bind, run_underlying Tryz.underlying56 w]
    rfl
  cases hq : Tryz.prog.info? 56 with
  | none => have := sizeBoth; simp [hq] at this
  | some i =>
    have hs : i.size = 64 := by have := sizeBoth; simpa [hq] using this
    simp [loadVar, Sem.run_bind, hagg, sizeOf, typeInfo, hq, hs, h1, sv]

theorem wpList_load_both {ops : Array Oper} {rest : List Oper} {o : Oper} {a : Act} {w : World} {Q : Exit → Act → World → Prop} (hgd : o.guard = none) (x : Operand) (ho : o.op = .load 56 x)
    (ad : Addr) (hx : a.eval x = .pointer (some ad)) (s : List Nat) (hl : s.length = 64) (hc : At w ad s)
    (h : wpList Tryz.prog ops Q rest (a.put o.dst (sv s)) w) : wpList Tryz.prog ops Q (o :: rest) a w := by
  refine wpList_plain hgd fun K hK => ?_
  unfold Oper.wp execOp
  simp only [ho, hx, Instr.loadAt, Instr.sureAddr, Sem.run_bind, Sem.run_pure, Result.andThen_ok, run_load_both w ad s hl hc]
  exact hK _ _ h

/-- A pair into the variable that was made last. -/
theorem wpList_store_newBoth {ops : Array Oper} {rest : List Oper} {o : Oper} {a : Act} {Q : Exit → Act → World → Prop} (w : World) (Z : Array Value) (hZ : Z.size = 64) (hgd : o.guard = none) (x y : Operand) (ho : o.op = .store 56 x y)
    (hx : a.eval x = .pointer (some ⟨w.heap.size, 0, none⟩)) (s : List Nat) (hl : s.length = 64) (hy : a.eval y = sv s)
    (h : wpList Tryz.prog ops Q rest (a.put o.dst undef) (w.alloc (.cells (bvs s).toArray 56))) : wpList Tryz.prog ops Q (o :: rest) a (w.alloc (.cells Z 56)) := by
  have hs : (bvs s).toArray.size = 64 := by rw [List.size_toArray, bvs_length, hl]
  refine wpList_store_row hgd 56 x y ho w.heap.size (bvs s).toArray hx hy 56 Z (World.alloc_heap_new w _) (by rw [hs]; exact sizeBoth) (by rw [hZ, hs]) ?_ ?_
  · exact Array.all_eq_true_iff_forall_mem.2 (fun v hv => bvs_oneCell s v (by simpa using hv))
  · rw [World.setRow_alloc_new]
    exact h

theorem wpList_store_both {ops : Array Oper} {rest : List Oper} {o : Oper} {a : Act} {w : World} {Q : Exit → Act → World → Prop} (hgd : o.guard = none) (x y : Operand) (ho : o.op = .store 56 x y)
    (g : Nat) (hx : a.eval x = .pointer (some ⟨g, 0, none⟩)) {T : TypeId} (xs ys : List Nat) (hl : xs.length = 64) (hl' : ys.length = 64) (hc : BArr w g T xs) (hy : a.eval y = sv ys)
    (h : wpList Tryz.prog ops Q rest (a.put o.dst undef) (w.setRow g (bvs ys).toArray)) : wpList Tryz.prog ops Q (o :: rest) a w := by
  refine wpList_store_row hgd 56 x y ho g (bvs ys).toArray hx hy T (bvs xs).toArray hc (by rw [List.size_toArray, bvs_length, hl']; exact sizeBoth) (by rw [List.size_toArray, List.size_toArray, bvs_length, bvs_length, hl, hl']) ?_ h
  exact Array.all_eq_true_iff_forall_mem.2 (fun v hv => bvs_oneCell ys v (by simpa using hv))

theorem fill_two (p : Nat → Option (Nat × Nat)) (h0 : p 0 = some (0, 32)) (h1 : p 1 = some (32, 32)) (cells : Array Value) (a b : Value) : Instr.fill p cells [(0, a), (1, b)] = Instr.fill (fun i => some (i * 32, 32)) cells [(0, a), (1, b)] := by
  simp only [Instr.fill, h0, h1, Nat.zero_mul, Nat.one_mul]

theorem infoBoth : (Tryz.prog.info? 56).map (fun i => (i.zero, i.size, i.bytes)) = some (some (.agg (Array.replicate 64 (.int .u8 0))), 64, 64) := by kernel_rfl

set_option maxRecDepth 100000 in
theorem run_build_both (x y : List Nat) (hx : x.length = 32) (hy : y.length = 32) (w : World) : (Instr.build 56 #[(0, sv x), (1, sv y)]).run Tryz.prog w = .ok (sv (x ++ y)) w := by
  obtain ⟨i0, hi, hz0, hz1, _⟩ := info_parts infoSum
  obtain ⟨j0, hj, hy0, hy1, _⟩ := info_parts infoBoth
  refine run_build w _ _ _ ?_
  unfold Program.built
  simp only [hj, Tryz.underlying56, hy0]
  have := fill_all [x, y] [] (List.replicate 64 (.int .u8 0)) 0 (by intro s hs; simp at hs; rcases hs with rfl | rfl; exact hx; exact hy) (by simp) rfl
  rw [List.nil_append, List.nil_append, show [x, y].flatten = x ++ y by simp, List.toArray_replicate] at this
  refine Eq.trans ?_ (Eq.trans (fill_two (fun x => ([(0, 32), (32, 32)] : List (Nat × Nat)).toArray[x]?) rfl rfl (Array.replicate 64 (.int .u8 0)) (sv x) (sv y)) this)
  simp [List.mapM_cons, hi, hz1, Value.cells]

theorem run_build_opB {o : Oper} {a : Act} (u v : Operand) (ho : o.op = .build 56 #[(0, u), (1, v)]) (x y : List Nat) (hu : a.eval u = sv x) (hv : a.eval v = sv y) (hx : x.length = 32) (hy : y.length = 32) (w : World) :
    (execOp a.eval o).run Tryz.prog w = .ok (.value (sv (x ++ y))) w := by
  have hp : (#[((0 : Nat), u), (1, v)].map fun ((i, x) : Nat × Operand) => (i, a.eval x)) = #[(0, sv x), (1, sv y)] := by simp [hu, hv]
  unfold execOp
  simp only [ho, hp, Sem.run_bind, Sem.run_pure, Result.andThen_ok, run_build_both x y hx hy w]

theorem wpList_build_both {ops : Array Oper} {rest : List Oper} {o : Oper} {a : Act} {w : World} {Q : Exit → Act → World → Prop} (hgd : o.guard = none) (u v : Operand) (ho : o.op = .build 56 #[(0, u), (1, v)])
    (x y : List Nat) (hu : a.eval u = sv x) (hv : a.eval v = sv y) (hx : x.length = 32) (hy : y.length = 32)
    (h : wpList Tryz.prog ops Q rest (a.put o.dst (sv (x ++ y))) w) : wpList Tryz.prog ops Q (o :: rest) a w := by
  refine wpList_plain hgd fun K hK => ?_
  unfold Oper.wp
  rw [run_build_opB u v ho x y hu hv hx hy]
  exact hK _ _ h

theorem yields_build_both {ops : Array Oper} {S : World → Prop} {o : Oper} {a : Act} (hw : Region.wanted o (yielded ops a.tmps) = true) (u v : Operand) (ho : o.op = .build 56 #[(0, u), (1, v)])
    (x y : List Nat) (hu : a.eval u = sv x) (hv : a.eval v = sv y) (hx : x.length = 32) (hy : y.length = 32) : YieldsIf Tryz.prog ops S o (sv (x ++ y)) a :=
  Or.inl ⟨hw, fun w _ => run_build_opB u v ho x y hu hv hx hy w⟩

theorem yields_both {ops : Array Oper} {S : World → Prop} {o : Oper} {a : Act} (hw : Region.wanted o (yielded ops a.tmps) = true) (x : Operand) (ho : o.op = .load 56 x)
    (ad : Addr) (hx : a.eval x = .pointer (some ad)) (s : List Nat) (hl : s.length = 64) (hc : ∀ w, S w → At w ad s) : YieldsIf Tryz.prog ops S o (sv s) a := by
  refine Or.inl ⟨hw, fun w hS => ?_⟩
  unfold execOp
  simp only [ho, hx, Instr.loadAt, Instr.sureAddr, Sem.run_bind, Sem.run_pure, Result.andThen_ok, run_load_both w ad s hl (hc w hS)]

theorem step_store_both {o : Oper} {a : Act} {w : World} {K : Act → World → Prop} {Q : Exit → Act → World → Prop} (x y : Operand) (ho : o.op = .store 56 x y)
    (g : Nat) (hx : a.eval x = .pointer (some ⟨g, 0, none⟩)) {T : TypeId} (xs ys : List Nat) (hl : xs.length = 64) (hl' : ys.length = 64) (hc : BArr w g T xs) (hy : a.eval y = sv ys)
    (h : K (a.put o.dst undef) (w.setRow g (bvs ys).toArray)) : Oper.wp Tryz.prog o a w K Q := by
  have hr := run_storeVar_row (P := Tryz.prog) w g T 56 (bvs xs).toArray (bvs ys).toArray hc (by rw [List.size_toArray, bvs_length, hl']; exact sizeBoth) (by rw [List.size_toArray, bvs_length, hl, List.size_toArray, bvs_length, hl']) (all_oneCell_toArray (bvs_oneCell ys))
  unfold Oper.wp execOp
  simp only [ho, hx, hy, sv, Instr.storeAt, Instr.sureAddr, Sem.run_bind, Sem.run_pure, Result.andThen_ok, hr]
  exact h

end Go.Proofs.YtilgikhdamkeoaaGreatDoor

/-
  almonerref11.leads, one step.
-/
namespace Go.Proofs.YtilgikhdamkeoaaGreatDoor
open Go.RowKit

/-- The world in which leads begins. -/
structure RLeadIn (w w1 : World) (a : List Nat) : Prop where
  sum : BArr w1 w.heap.size 25 a
  res : BArr w1 (w.heap.size + 1) 56 zero64
  below : Below w.heap.size w w1
  size : w1.heap.size = w.heap.size + 2
theorem rleadIn_of (w : World) (a : List Nat) : RLeadIn w ((w.alloc (.cells (bvs a).toArray 25)).alloc (.cells (bvs zero64).toArray 56)) a := by
  have f0 := (BArr.new w 25 a).alloc (.cells (bvs zero64).toArray 56)
  have f1 := BArr.new (w.alloc (.cells (bvs a).toArray 25)) 56 zero64
  rw [World.size_alloc] at f1
  exact ⟨f0, f1, (below_alloc w _).alloc (by simp) _, by simp⟩

section
variable {w : World} {m c : Nat} {A : Option Addr} {a : List Nat} {from_ size : Nat} {edge : Bool}

set_option maxRecDepth 100000 in
set_option maxHeartbeats 4000000 in
theorem rl_edge (hl : a.length = 32) (hfs : from_ = size) :
    Calls Tryz.prog 17 #[.int .u64 (from_ : Int), .int .u64 (size : Int), sv a, .slice A m c, .bool true] w fun e w' => e = .returned (.tuple #[sv (a ++ a), .slice A m c, .bool true]) ∧ Below w.heap.size w w' := by
  subst hfs
  have e0 : (bvs zero64).toArray = #[.int .u8 0, .int .u8 0, .int .u8 0, .int .u8 0, .int .u8 0, .int .u8 0, .int .u8 0, .int .u8 0, .int .u8 0, .int .u8 0, .int .u8 0, .int .u8 0, .int .u8 0, .int .u8 0, .int .u8 0, .int .u8 0, .int .u8 0, .int .u8 0, .int .u8 0, .int .u8 0, .int .u8 0, .int .u8 0, .int .u8 0, .int .u8 0, .int .u8 0, .int .u8 0, .int .u8 0, .int .u8 0, .int .u8 0, .int .u8 0, .int .u8 0, .int .u8 0, .int .u8 0, .int .u8 0, .int .u8 0, .int .u8 0, .int .u8 0, .int .u8 0, .int .u8 0, .int .u8 0, .int .u8 0, .int .u8 0, .int .u8 0, .int .u8 0, .int .u8 0, .int .u8 0, .int .u8 0, .int .u8 0, .int .u8 0, .int .u8 0, .int .u8 0, .int .u8 0, .int .u8 0, .int .u8 0, .int .u8 0, .int .u8 0, .int .u8 0, .int .u8 0, .int .u8 0, .int .u8 0, .int .u8 0, .int .u8 0, .int .u8 0, .int .u8 0] := rfl
  have h1 := rleadIn_of w a
  rw [e0] at h1
  clear e0
  obtain ⟨w1, hw1⟩ : ∃ w1, w1 = (w.alloc (.cells (bvs a).toArray 25)).alloc (.cells #[.int .u8 0, .int .u8 0, .int .u8 0, .int .u8 0, .int .u8 0, .int .u8 0, .int .u8 0, .int .u8 0, .int .u8 0, .int .u8 0, .int .u8 0, .int .u8 0, .int .u8 0, .int .u8 0, .int .u8 0, .int .u8 0, .int .u8 0, .int .u8 0, .int .u8 0, .int .u8 0, .int .u8 0, .int .u8 0, .int .u8 0, .int .u8 0, .int .u8 0, .int .u8 0, .int .u8 0, .int .u8 0, .int .u8 0, .int .u8 0, .int .u8 0, .int .u8 0, .int .u8 0, .int .u8 0, .int .u8 0, .int .u8 0, .int .u8 0, .int .u8 0, .int .u8 0, .int .u8 0, .int .u8 0, .int .u8 0, .int .u8 0, .int .u8 0, .int .u8 0, .int .u8 0, .int .u8 0, .int .u8 0, .int .u8 0, .int .u8 0, .int .u8 0, .int .u8 0, .int .u8 0, .int .u8 0, .int .u8 0, .int .u8 0, .int .u8 0, .int .u8 0, .int .u8 0, .int .u8 0, .int .u8 0, .int .u8 0, .int .u8 0, .int .u8 0] 56) := ⟨_, rfl⟩
  rw [← hw1] at h1
  have H1 := Lib.hid h1
  have HW := Lib.hid hw1
  have HZ := Lib.hid (show zero64.length = 64 from rfl)
  have hA := Lib.hid h1.sum.at_
  have R1 := h1.res
  have HS1 := Lib.hid h1.size
  have hf : ((from_ : Int) == (from_ : Int)) = true := by simp
  have haa : (a ++ a).length = 64 := by rw [List.length_append]; omega
  clear h1 hw1
  unfold sv
  go_enter Tryz.func17, Tryz.ntmps17
  go_upto_region 1 with fail
  rw [← HW.out]
  go_upto_region 3 with fail
  refine wp_region_lit ?_
  refine wpList_load_sum rfl (.tmp 7) rfl ⟨w.heap.size, 0, none⟩ rfl a hl hA.out ?_
  refine wpList_load_sum rfl (.tmp 7) rfl ⟨w.heap.size, 0, none⟩ rfl a hl hA.out ?_
  refine wpList_build_both rfl (.tmp 24) (.tmp 25) rfl a a rfl rfl hl hl ?_
  refine wpList_plain rfl fun K hK => ?_
  go_simp
  refine hK _ _ ?_
  clear hK K
  refine wpList_store_both rfl (.tmp 10) (.tmp 26) rfl (w.heap.size + 1) rfl zero64 (a ++ a) HZ.out haa R1 rfl ?_
  simp only [Act.put]
  go_wp2_with fail
  have r4 : BArr (w1.setRow (w.heap.size + 1) (bvs (a ++ a)).toArray) (w.heap.size + 1) 56 (a ++ a) := R1.setRow _
  refine bodyPost_ret_by (v := .tuple #[sv (a ++ a), .slice A m c, .bool true]) (results_cell_tmp2 (p := 10) (q := 11) (r := 12) (ty := 56) (by kernel_rfl) _ _ ⟨w.heap.size + 1, 0, none⟩ (sv (a ++ a)) rfl (run_load_both _ _ _ haa r4.at_)) rfl ?_
  exact ⟨rfl, below_setRow H1.out.below (Nat.le_succ _) _⟩

set_option maxRecDepth 100000 in
set_option maxHeartbeats 4000000 in
theorem rl_none (hm : m = 0) (hfs : from_ = size) :
    Calls Tryz.prog 17 #[.int .u64 (from_ : Int), .int .u64 (size : Int), sv a, .slice A m c, .bool false] w fun e w' => e = .returned (.tuple #[sv zero64, .slice none 0 0, .bool false]) ∧ Below w.heap.size w w' := by
  subst hfs hm
  have e0 : (bvs zero64).toArray = #[.int .u8 0, .int .u8 0, .int .u8 0, .int .u8 0, .int .u8 0, .int .u8 0, .int .u8 0, .int .u8 0, .int .u8 0, .int .u8 0, .int .u8 0, .int .u8 0, .int .u8 0, .int .u8 0, .int .u8 0, .int .u8 0, .int .u8 0, .int .u8 0, .int .u8 0, .int .u8 0, .int .u8 0, .int .u8 0, .int .u8 0, .int .u8 0, .int .u8 0, .int .u8 0, .int .u8 0, .int .u8 0, .int .u8 0, .int .u8 0, .int .u8 0, .int .u8 0, .int .u8 0, .int .u8 0, .int .u8 0, .int .u8 0, .int .u8 0, .int .u8 0, .int .u8 0, .int .u8 0, .int .u8 0, .int .u8 0, .int .u8 0, .int .u8 0, .int .u8 0, .int .u8 0, .int .u8 0, .int .u8 0, .int .u8 0, .int .u8 0, .int .u8 0, .int .u8 0, .int .u8 0, .int .u8 0, .int .u8 0, .int .u8 0, .int .u8 0, .int .u8 0, .int .u8 0, .int .u8 0, .int .u8 0, .int .u8 0, .int .u8 0, .int .u8 0] := rfl
  have h1 := rleadIn_of w a
  rw [e0] at h1
  clear e0
  obtain ⟨w1, hw1⟩ : ∃ w1, w1 = (w.alloc (.cells (bvs a).toArray 25)).alloc (.cells #[.int .u8 0, .int .u8 0, .int .u8 0, .int .u8 0, .int .u8 0, .int .u8 0, .int .u8 0, .int .u8 0, .int .u8 0, .int .u8 0, .int .u8 0, .int .u8 0, .int .u8 0, .int .u8 0, .int .u8 0, .int .u8 0, .int .u8 0, .int .u8 0, .int .u8 0, .int .u8 0, .int .u8 0, .int .u8 0, .int .u8 0, .int .u8 0, .int .u8 0, .int .u8 0, .int .u8 0, .int .u8 0, .int .u8 0, .int .u8 0, .int .u8 0, .int .u8 0, .int .u8 0, .int .u8 0, .int .u8 0, .int .u8 0, .int .u8 0, .int .u8 0, .int .u8 0, .int .u8 0, .int .u8 0, .int .u8 0, .int .u8 0, .int .u8 0, .int .u8 0, .int .u8 0, .int .u8 0, .int .u8 0, .int .u8 0, .int .u8 0, .int .u8 0, .int .u8 0, .int .u8 0, .int .u8 0, .int .u8 0, .int .u8 0, .int .u8 0, .int .u8 0, .int .u8 0, .int .u8 0, .int .u8 0, .int .u8 0, .int .u8 0, .int .u8 0] 56) := ⟨_, rfl⟩
  rw [← hw1] at h1
  have H1 := Lib.hid h1
  have HW := Lib.hid hw1
  have HZ := Lib.hid (show zero64.length = 64 from rfl)
  have hA := Lib.hid h1.sum.at_
  have R1 := h1.res
  have HS1 := Lib.hid h1.size
  have hf : ((from_ : Int) == (from_ : Int)) = true := by simp
  have hz := HZ.out
  clear h1 hw1
  unfold sv
  go_enter Tryz.func17, Tryz.ntmps17
  go_upto_region 1 with fail
  rw [← HW.out]
  go_wp2_with (with_reducible refine wpList_store_both rfl (.tmp 10) (.tmp 31) rfl (w.heap.size + 1) rfl zero64 zero64 hz hz R1 rfl ?_)
  have r4 : BArr (w1.setRow (w.heap.size + 1) (bvs zero64).toArray) (w.heap.size + 1) 56 zero64 := R1.setRow _
  refine bodyPost_ret_by (v := .tuple #[sv zero64, .slice none 0 0, .bool false]) (results_cell_tmp2 (p := 10) (q := 11) (r := 12) (ty := 56) (by kernel_rfl) _ _ ⟨w.heap.size + 1, 0, none⟩ (sv (zero64)) rfl (run_load_both _ _ _ hz r4.at_)) rfl ?_
  exact ⟨rfl, below_setRow H1.out.below (Nat.le_succ _) _⟩

set_option maxRecDepth 100000 in
set_option maxHeartbeats 4000000 in
theorem rl_some {s : List Nat} {A' : Option Addr} {ad : Addr} (hA' : A = some ad) (hm : 0 < m) (hfs : from_ = size) (hsl : s.length = 32) (hat : At w ad s)
    (hcut : ∀ W : World, (Instr.slice 22 (.slice (some ad) m c) (some (.int .i64 1)) none none).run Tryz.prog W = .ok (.slice A' (m - 1) (c - 1)) W) :
    Calls Tryz.prog 17 #[.int .u64 (from_ : Int), .int .u64 (size : Int), sv a, .slice A m c, .bool false] w fun e w' => e = .returned (.tuple #[sv (s ++ s), .slice A' (m - 1) (c - 1), .bool true]) ∧ Below w.heap.size w w' := by
  subst hfs hA'
  have e0 : (bvs zero64).toArray = #[.int .u8 0, .int .u8 0, .int .u8 0, .int .u8 0, .int .u8 0, .int .u8 0, .int .u8 0, .int .u8 0, .int .u8 0, .int .u8 0, .int .u8 0, .int .u8 0, .int .u8 0, .int .u8 0, .int .u8 0, .int .u8 0, .int .u8 0, .int .u8 0, .int .u8 0, .int .u8 0, .int .u8 0, .int .u8 0, .int .u8 0, .int .u8 0, .int .u8 0, .int .u8 0, .int .u8 0, .int .u8 0, .int .u8 0, .int .u8 0, .int .u8 0, .int .u8 0, .int .u8 0, .int .u8 0, .int .u8 0, .int .u8 0, .int .u8 0, .int .u8 0, .int .u8 0, .int .u8 0, .int .u8 0, .int .u8 0, .int .u8 0, .int .u8 0, .int .u8 0, .int .u8 0, .int .u8 0, .int .u8 0, .int .u8 0, .int .u8 0, .int .u8 0, .int .u8 0, .int .u8 0, .int .u8 0, .int .u8 0, .int .u8 0, .int .u8 0, .int .u8 0, .int .u8 0, .int .u8 0, .int .u8 0, .int .u8 0, .int .u8 0, .int .u8 0] := rfl
  have h1 := rleadIn_of w a
  rw [e0] at h1
  clear e0
  obtain ⟨w1, hw1⟩ : ∃ w1, w1 = (w.alloc (.cells (bvs a).toArray 25)).alloc (.cells #[.int .u8 0, .int .u8 0, .int .u8 0, .int .u8 0, .int .u8 0, .int .u8 0, .int .u8 0, .int .u8 0, .int .u8 0, .int .u8 0, .int .u8 0, .int .u8 0, .int .u8 0, .int .u8 0, .int .u8 0, .int .u8 0, .int .u8 0, .int .u8 0, .int .u8 0, .int .u8 0, .int .u8 0, .int .u8 0, .int .u8 0, .int .u8 0, .int .u8 0, .int .u8 0, .int .u8 0, .int .u8 0, .int .u8 0, .int .u8 0, .int .u8 0, .int .u8 0, .int .u8 0, .int .u8 0, .int .u8 0, .int .u8 0, .int .u8 0, .int .u8 0, .int .u8 0, .int .u8 0, .int .u8 0, .int .u8 0, .int .u8 0, .int .u8 0, .int .u8 0, .int .u8 0, .int .u8 0, .int .u8 0, .int .u8 0, .int .u8 0, .int .u8 0, .int .u8 0, .int .u8 0, .int .u8 0, .int .u8 0, .int .u8 0, .int .u8 0, .int .u8 0, .int .u8 0, .int .u8 0, .int .u8 0, .int .u8 0, .int .u8 0, .int .u8 0] 56) := ⟨_, rfl⟩
  rw [← hw1] at h1
  have H1 := Lib.hid h1
  have HW := Lib.hid hw1
  have HZ := Lib.hid (show zero64.length = 64 from rfl)
  have hA := Lib.hid h1.sum.at_
  have R1 := h1.res
  have HS1 := Lib.hid h1.size
  have hf : ((from_ : Int) == (from_ : Int)) = true := by simp
  have hm0 : ((m : Int) == 0) = false := by simp; omega
  have hmp : (0 : Int) < (m : Int) := by omega
  have hss : (s ++ s).length = 64 := by rw [List.length_append]; omega
  have HAT := Lib.hid hat
  obtain ⟨mm, hmm⟩ : ∃ mm, m - 1 = mm := ⟨_, rfl⟩
  obtain ⟨cc, hcc⟩ : ∃ cc, c - 1 = cc := ⟨_, rfl⟩
  rw [hmm, hcc] at hcut ⊢
  clear h1 hw1 hmm hcc hat
  unfold sv
  go_enter Tryz.func17, Tryz.ntmps17
  go_upto_region 1 with fail
  rw [← HW.out]
  go_upto_region 6 with fail
  have hS0 : Below w.heap.size w w1.drew := H1.out.below.drew
  refine wp_region_held (S := fun W => Below w.heap.size w W) (by kernel_rfl) ?_
  change wpAnyH _ _ _ _ _ _ _ _ w1.drew
  refine' wpAnyH_take (i := 0) (oi := _) (v := _) ?hi0 (by kernel_rfl) ?hf0 ?hr0 ?hQ0 ?hy0 hS0 ?rest0
  case hi0 => (simp only [List.getElem?_toArray, List.getElem?_cons_zero]; rfl)
  case hf0 => kernel_rfl
  case hr0 => kernel_rfl
  case hQ0 => exact fun _ _ _ h => h
  case hy0 => refine Or.inl ⟨by rfl, ?_⟩; intro W hSw; go_simp; try with_reducible rfl
  try simp only [Act.put, List.setIfInBounds_toArray, List.set_cons_zero, List.set_cons_succ]
  refine' wpAnyH_take (i := 1) (oi := _) (v := _) ?hi1 (by kernel_rfl) ?hf1 ?hr1 ?hQ1 ?hy1 hS0 ?rest1
  case hi1 => (simp only [List.getElem?_toArray, List.getElem?_cons_zero, List.getElem?_cons_succ]; rfl)
  case hf1 => kernel_rfl
  case hr1 => kernel_rfl
  case hQ1 => exact fun _ _ _ h => h
  case hy1 => refine Or.inl ⟨by rfl, ?_⟩; intro W hSw; go_simp; try with_reducible rfl
  try simp only [Act.put, List.setIfInBounds_toArray, List.set_cons_zero, List.set_cons_succ]
  refine' wpAnyH_take (i := 2) (oi := _) (v := sv s) ?hi2 (by kernel_rfl) ?hf2 ?hr2 ?hQ2 ?hy2 hS0 ?rest2
  case hi2 => (simp only [List.getElem?_toArray, List.getElem?_cons_zero, List.getElem?_cons_succ]; rfl)
  case hf2 => kernel_rfl
  case hr2 => kernel_rfl
  case hQ2 => exact fun _ _ _ h => h
  case hy2 => exact yields_sum (by rfl) (.tmp 33) (by rfl) _ (by rfl) s hsl (fun W hSw => HAT.out.below hSw)
  try simp only [Act.put, List.setIfInBounds_toArray, List.set_cons_zero, List.set_cons_succ]
  refine' wpAnyH_take (i := 3) (oi := _) (v := _) ?hi3 (by kernel_rfl) ?hf3 ?hr3 ?hQ3 ?hy3 hS0 ?rest3
  case hi3 => (simp only [List.getElem?_toArray, List.getElem?_cons_zero, List.getElem?_cons_succ]; rfl)
  case hf3 => kernel_rfl
  case hr3 => kernel_rfl
  case hQ3 => exact fun _ _ _ h => h
  case hy3 => refine Or.inl ⟨by rfl, ?_⟩; intro W hSw; go_simp; try with_reducible rfl
  try simp only [Act.put, List.setIfInBounds_toArray, List.set_cons_zero, List.set_cons_succ]
  refine' wpAnyH_take (i := 4) (oi := _) (v := _) ?hi4 (by kernel_rfl) ?hf4 ?hr4 ?hQ4 ?hy4 hS0 ?rest4
  case hi4 => (simp only [List.getElem?_toArray, List.getElem?_cons_zero, List.getElem?_cons_succ]; rfl)
  case hf4 => kernel_rfl
  case hr4 => kernel_rfl
  case hQ4 => exact fun _ _ _ h => h
  case hy4 => refine Or.inl ⟨by rfl, ?_⟩; intro W hSw; go_simp; try with_reducible rfl
  try simp only [Act.put, List.setIfInBounds_toArray, List.set_cons_zero, List.set_cons_succ]
  refine' wpAnyH_take (i := 5) (oi := _) (v := sv s) ?hi5 (by kernel_rfl) ?hf5 ?hr5 ?hQ5 ?hy5 hS0 ?rest5
  case hi5 => (simp only [List.getElem?_toArray, List.getElem?_cons_zero, List.getElem?_cons_succ]; rfl)
  case hf5 => kernel_rfl
  case hr5 => kernel_rfl
  case hQ5 => exact fun _ _ _ h => h
  case hy5 => exact yields_sum (by rfl) (.tmp 36) (by rfl) _ (by rfl) s hsl (fun W hSw => HAT.out.below hSw)
  try simp only [Act.put, List.setIfInBounds_toArray, List.set_cons_zero, List.set_cons_succ]
  refine' wpAnyH_take (i := 6) (oi := _) (v := sv (s ++ s)) ?hi6 (by kernel_rfl) ?hf6 ?hr6 ?hQ6 ?hy6 hS0 ?rest6
  case hi6 => (simp only [List.getElem?_toArray, List.getElem?_cons_zero, List.getElem?_cons_succ]; rfl)
  case hf6 => kernel_rfl
  case hr6 => kernel_rfl
  case hQ6 => exact fun _ _ _ h => h
  case hy6 => exact yields_build_both (by rfl) (.tmp 34) (.tmp 37) (by rfl) s s (by rfl) (by rfl) hsl hsl
  try simp only [Act.put, List.setIfInBounds_toArray, List.set_cons_zero, List.set_cons_succ]
  refine' wpAnyH_take (i := 7) (oi := _) (v := _) ?hi7 (by kernel_rfl) ?hf7 ?hr7 ?hQ7 ?hy7 hS0 ?rest7
  case hi7 => (simp only [List.getElem?_toArray, List.getElem?_cons_zero, List.getElem?_cons_succ]; rfl)
  case hf7 => kernel_rfl
  case hr7 => kernel_rfl
  case hQ7 => exact fun _ _ _ h => h
  case hy7 => refine Or.inl ⟨by rfl, ?_⟩; intro W hSw; go_simp; try with_reducible rfl
  try simp only [Act.put, List.setIfInBounds_toArray, List.set_cons_zero, List.set_cons_succ]
  refine' wpAnyH_take (i := 8) (oi := _) (v := _) ?hi8 (by kernel_rfl) ?hf8 ?hr8 ?hQ8 ?hy8 hS0 ?rest8
  case hi8 => (simp only [List.getElem?_toArray, List.getElem?_cons_zero, List.getElem?_cons_succ]; rfl)
  case hf8 => kernel_rfl
  case hr8 => kernel_rfl
  case hQ8 => exact fun _ _ _ h => h
  case hy8 => refine Or.inl ⟨by rfl, ?_⟩; intro W hSw; go_simp; try with_reducible rfl
  try simp only [Act.put, List.setIfInBounds_toArray, List.set_cons_zero, List.set_cons_succ]
  refine wpAnyH_ready (rs := [9]) (by kernel_rfl) (by simp) ?_
  refine' AllReadyH.cons (o := _) ?hi9 (fun K hK => ?_) AllReadyH.nil
  case hi9 => (simp only [List.getElem?_toArray, List.getElem?_cons_zero, List.getElem?_cons_succ]; rfl)
  rw [if_pos (by rfl)]
  have RW : BArr w1.drew (w.heap.size + 1) 56 zero64 := R1
  refine step_store_both (.tmp 10) (.tmp 38) rfl (w.heap.size + 1) rfl zero64 (s ++ s) HZ.out hss RW rfl ?_
  have r7 : BArr (w1.drew.setRow (w.heap.size + 1) (bvs (s ++ s)).toArray) (w.heap.size + 1) 56 (s ++ s) := RW.setRow _
  have hS9 : Below w.heap.size w (w1.drew.setRow (w.heap.size + 1) (bvs (s ++ s)).toArray) := below_setRow hS0 (Nat.le_succ _) _
  refine hK.out _ _ hS9 (fun _ => ?_)
  clear hK K
  refine' wpAnyH_take (i := 10) (oi := _) (v := _) ?hi10 (by kernel_rfl) ?hf10 ?hr10 ?hQ10 ?hy10 hS9 ?rest10
  case hi10 => (simp only [List.getElem?_toArray, List.getElem?_cons_zero, List.getElem?_cons_succ]; rfl)
  case hf10 => kernel_rfl
  case hr10 => kernel_rfl
  case hQ10 => exact fun _ _ _ h => h
  case hy10 => refine Or.inl ⟨by rfl, ?_⟩; intro W hSw; go_simp; try with_reducible rfl
  try simp only [Act.put, List.setIfInBounds_toArray, List.set_cons_zero, List.set_cons_succ]
  refine' wpAnyH_take (i := 11) (oi := _) (v := _) ?hi11 (by kernel_rfl) ?hf11 ?hr11 ?hQ11 ?hy11 hS9 ?rest11
  case hi11 => (simp only [List.getElem?_toArray, List.getElem?_cons_zero, List.getElem?_cons_succ]; rfl)
  case hf11 => kernel_rfl
  case hr11 => kernel_rfl
  case hQ11 => exact fun _ _ _ h => h
  case hy11 => refine Or.inl ⟨by rfl, ?_⟩; intro W hSw; go_simp; try with_reducible rfl
  try simp only [Act.put, List.setIfInBounds_toArray, List.set_cons_zero, List.set_cons_succ]
  refine wpAnyH_done (by kernel_rfl) ?_ _
  go_wp2
  refine bodyPost_ret_by (v := .tuple #[sv (s ++ s), .slice A' mm cc, .bool true]) (results_cell_tmp2 (p := 10) (q := 11) (r := 12) (ty := 56) (by kernel_rfl) _ _ ⟨w.heap.size + 1, 0, none⟩ (sv (s ++ s)) rfl (run_load_both _ _ _ hss r7.at_)) rfl ?_
  exact ⟨rfl, hS9⟩

set_option maxRecDepth 100000 in
set_option maxHeartbeats 4000000 in
theorem rl_low_fall {P Q : List Nat} {A1 : Option Addr} {m1 c1 : Nat} {ok : Bool} (hal : a.length = 32) (hPl : P.length = 32) (hQl : Q.length = 32) (h2 : 2 ≤ size) (hz : size < 18446744073709551616) (hfs : from_ < size) (ha : from_ ≤ cutN size)
    (ih : ∀ W : World, Below w.heap.size w W → Calls Tryz.prog 17 #[.int .u64 (from_ : Nat), .int .u64 ((cutN size) : Nat), sv a, .slice A m c, .bool edge] W fun e w' => e = .returned (.tuple #[sv (P ++ Q), .slice A1 m1 c1, .bool ok]) ∧ Below W.heap.size W w')
    (hno : ok = false ∨ m1 = 0) :
    Calls Tryz.prog 17 #[.int .u64 (from_ : Int), .int .u64 (size : Int), sv a, .slice A m c, .bool edge] w fun e w' => e = .returned (.tuple #[sv zero64, .slice none 0 0, .bool false]) ∧ Below w.heap.size w w' := by
  have e0 : (bvs zero64).toArray = #[.int .u8 0, .int .u8 0, .int .u8 0, .int .u8 0, .int .u8 0, .int .u8 0, .int .u8 0, .int .u8 0, .int .u8 0, .int .u8 0, .int .u8 0, .int .u8 0, .int .u8 0, .int .u8 0, .int .u8 0, .int .u8 0, .int .u8 0, .int .u8 0, .int .u8 0, .int .u8 0, .int .u8 0, .int .u8 0, .int .u8 0, .int .u8 0, .int .u8 0, .int .u8 0, .int .u8 0, .int .u8 0, .int .u8 0, .int .u8 0, .int .u8 0, .int .u8 0, .int .u8 0, .int .u8 0, .int .u8 0, .int .u8 0, .int .u8 0, .int .u8 0, .int .u8 0, .int .u8 0, .int .u8 0, .int .u8 0, .int .u8 0, .int .u8 0, .int .u8 0, .int .u8 0, .int .u8 0, .int .u8 0, .int .u8 0, .int .u8 0, .int .u8 0, .int .u8 0, .int .u8 0, .int .u8 0, .int .u8 0, .int .u8 0, .int .u8 0, .int .u8 0, .int .u8 0, .int .u8 0, .int .u8 0, .int .u8 0, .int .u8 0, .int .u8 0] := rfl
  have h1 := rleadIn_of w a
  rw [e0] at h1
  clear e0
  obtain ⟨w1, hw1⟩ : ∃ w1, w1 = (w.alloc (.cells (bvs a).toArray 25)).alloc (.cells #[.int .u8 0, .int .u8 0, .int .u8 0, .int .u8 0, .int .u8 0, .int .u8 0, .int .u8 0, .int .u8 0, .int .u8 0, .int .u8 0, .int .u8 0, .int .u8 0, .int .u8 0, .int .u8 0, .int .u8 0, .int .u8 0, .int .u8 0, .int .u8 0, .int .u8 0, .int .u8 0, .int .u8 0, .int .u8 0, .int .u8 0, .int .u8 0, .int .u8 0, .int .u8 0, .int .u8 0, .int .u8 0, .int .u8 0, .int .u8 0, .int .u8 0, .int .u8 0, .int .u8 0, .int .u8 0, .int .u8 0, .int .u8 0, .int .u8 0, .int .u8 0, .int .u8 0, .int .u8 0, .int .u8 0, .int .u8 0, .int .u8 0, .int .u8 0, .int .u8 0, .int .u8 0, .int .u8 0, .int .u8 0, .int .u8 0, .int .u8 0, .int .u8 0, .int .u8 0, .int .u8 0, .int .u8 0, .int .u8 0, .int .u8 0, .int .u8 0, .int .u8 0, .int .u8 0, .int .u8 0, .int .u8 0, .int .u8 0, .int .u8 0, .int .u8 0] 56) := ⟨_, rfl⟩
  rw [← hw1] at h1
  have H1 := Lib.hid h1
  have HW := Lib.hid hw1
  have HZ := Lib.hid (show zero64.length = 64 from rfl)
  have hA := Lib.hid h1.sum.at_
  have R1 := h1.res
  have HS1 := Lib.hid h1.size
  have hcl := cutN_lt h2
  have hcp := cutN_pos size
  obtain ⟨k, hk0⟩ : ∃ k, cutN size = k := ⟨_, rfl⟩
  rw [hk0] at hcl hcp ha ih
  have ns : ((from_ : Int) == (size : Int)) = false := by simp; omega
  have hle : (from_ : Int) ≤ (k : Int) := by omega
  have CM := Lib.hid (refCut_all size w1 h2 hz)
  rw [hk0] at CM
  have IH := Lib.hid (ih w1 h1.below)
  have hPQ : (P ++ Q).length = 64 := by rw [List.length_append]; omega
  have HNO := Lib.hid hno
  clear h1 hw1 ih hk0 hcl hcp h2 hz hfs ha hno hPl hQl
  unfold sv
  go_enter Tryz.func17, Tryz.ntmps17
  go_upto_region 1 with fail
  rw [← HW.out]
  go_wp2_with fail
  refine CM.out.mono ?_
  rintro e w2 ⟨rfl, hww⟩
  subst hww
  go_wp2_with (with_reducible refine wpList_load_sum rfl (.tmp 7) rfl ⟨w.heap.size, 0, none⟩ rfl a hal hA.out ?_)
  refine IH.out.mono ?_
  rintro e w3 ⟨rfl, hb3⟩
  have R3 : BArr w3 (w.heap.size + 1) 56 zero64 := R1.below hb3
  have B3 := Lib.hid (below_on H1.out.below (Nat.le_refl _) hb3)
  have S3 := Lib.hid hb3.size
  clear hb3 R1
  go_upto_region 10 with (with_reducible refine wpList_store_newBoth w3 _ rfl rfl (.tmp 14) (.tmp 53) rfl rfl (P ++ Q) hPQ rfl ?_)
  have b4 := below_alloc w3 (.cells (bvs (P ++ Q)).toArray 56)
  have g4 := BArr.new w3 56 (P ++ Q)
  obtain ⟨w4, hw4⟩ : ∃ w4, w4 = w3.alloc (.cells (bvs (P ++ Q)).toArray 56) := ⟨_, rfl⟩
  rw [← hw4] at b4 g4 ⊢
  have R4 : BArr w4 (w.heap.size + 1) 56 zero64 := R3.below b4
  have B4 := Lib.hid (below_on B3.out (Nat.le_refl _) b4)
  have G4 := Lib.hid g4
  clear hw4 b4 g4 R3
  have hz := HZ.out
  have r4 : BArr (w4.setRow (w.heap.size + 1) (bvs zero64).toArray) (w.heap.size + 1) 56 zero64 := R4.setRow _
  cases ok with
  | false =>
    go_wp2_with (with_reducible refine wpList_store_both rfl (.tmp 10) (.tmp 63) rfl (w.heap.size + 1) rfl zero64 zero64 hz hz R4 rfl ?_)
    refine bodyPost_ret_by (v := .tuple #[sv zero64, .slice none 0 0, .bool false]) (results_cell_tmp2 (p := 10) (q := 11) (r := 12) (ty := 56) (by kernel_rfl) _ _ ⟨w.heap.size + 1, 0, none⟩ (sv (zero64)) rfl (run_load_both _ _ _ hz r4.at_)) rfl ?_
    exact ⟨rfl, below_setRow B4.out (Nat.le_succ _) _⟩
  | true =>
    obtain rfl : m1 = 0 := by have := HNO.out; simpa using this
    go_wp2_with (with_reducible refine wpList_store_both rfl (.tmp 10) (.tmp 63) rfl (w.heap.size + 1) rfl zero64 zero64 hz hz R4 rfl ?_)
    refine bodyPost_ret_by (v := .tuple #[sv zero64, .slice none 0 0, .bool false]) (results_cell_tmp2 (p := 10) (q := 11) (r := 12) (ty := 56) (by kernel_rfl) _ _ ⟨w.heap.size + 1, 0, none⟩ (sv (zero64)) rfl (run_load_both _ _ _ hz r4.at_)) rfl ?_
    exact ⟨rfl, below_setRow B4.out (Nat.le_succ _) _⟩

set_option maxRecDepth 100000 in
set_option maxHeartbeats 4000000 in
theorem rl_high_fall {P Q : List Nat} {A1 : Option Addr} {m1 c1 : Nat} {ok : Bool} (hal : a.length = 32) (hPl : P.length = 32) (hQl : Q.length = 32) (h2 : 2 ≤ size) (hz : size < 18446744073709551616) (hfs : from_ < size) (ha : ¬ from_ ≤ cutN size)
    (ih : ∀ W : World, Below w.heap.size w W → Calls Tryz.prog 17 #[.int .u64 ((from_ - cutN size) : Nat), .int .u64 ((size - cutN size) : Nat), sv a, .slice A m c, .bool false] W fun e w' => e = .returned (.tuple #[sv (P ++ Q), .slice A1 m1 c1, .bool ok]) ∧ Below W.heap.size W w')
    (hno : ok = false ∨ m1 = 0) :
    Calls Tryz.prog 17 #[.int .u64 (from_ : Int), .int .u64 (size : Int), sv a, .slice A m c, .bool edge] w fun e w' => e = .returned (.tuple #[sv zero64, .slice none 0 0, .bool false]) ∧ Below w.heap.size w w' := by
  have e0 : (bvs zero64).toArray = #[.int .u8 0, .int .u8 0, .int .u8 0, .int .u8 0, .int .u8 0, .int .u8 0, .int .u8 0, .int .u8 0, .int .u8 0, .int .u8 0, .int .u8 0, .int .u8 0, .int .u8 0, .int .u8 0, .int .u8 0, .int .u8 0, .int .u8 0, .int .u8 0, .int .u8 0, .int .u8 0, .int .u8 0, .int .u8 0, .int .u8 0, .int .u8 0, .int .u8 0, .int .u8 0, .int .u8 0, .int .u8 0, .int .u8 0, .int .u8 0, .int .u8 0, .int .u8 0, .int .u8 0, .int .u8 0, .int .u8 0, .int .u8 0, .int .u8 0, .int .u8 0, .int .u8 0, .int .u8 0, .int .u8 0, .int .u8 0, .int .u8 0, .int .u8 0, .int .u8 0, .int .u8 0, .int .u8 0, .int .u8 0, .int .u8 0, .int .u8 0, .int .u8 0, .int .u8 0, .int .u8 0, .int .u8 0, .int .u8 0, .int .u8 0, .int .u8 0, .int .u8 0, .int .u8 0, .int .u8 0, .int .u8 0, .int .u8 0, .int .u8 0, .int .u8 0] := rfl
  have h1 := rleadIn_of w a
  rw [e0] at h1
  clear e0
  obtain ⟨w1, hw1⟩ : ∃ w1, w1 = (w.alloc (.cells (bvs a).toArray 25)).alloc (.cells #[.int .u8 0, .int .u8 0, .int .u8 0, .int .u8 0, .int .u8 0, .int .u8 0, .int .u8 0, .int .u8 0, .int .u8 0, .int .u8 0, .int .u8 0, .int .u8 0, .int .u8 0, .int .u8 0, .int .u8 0, .int .u8 0, .int .u8 0, .int .u8 0, .int .u8 0, .int .u8 0, .int .u8 0, .int .u8 0, .int .u8 0, .int .u8 0, .int .u8 0, .int .u8 0, .int .u8 0, .int .u8 0, .int .u8 0, .int .u8 0, .int .u8 0, .int .u8 0, .int .u8 0, .int .u8 0, .int .u8 0, .int .u8 0, .int .u8 0, .int .u8 0, .int .u8 0, .int .u8 0, .int .u8 0, .int .u8 0, .int .u8 0, .int .u8 0, .int .u8 0, .int .u8 0, .int .u8 0, .int .u8 0, .int .u8 0, .int .u8 0, .int .u8 0, .int .u8 0, .int .u8 0, .int .u8 0, .int .u8 0, .int .u8 0, .int .u8 0, .int .u8 0, .int .u8 0, .int .u8 0, .int .u8 0, .int .u8 0, .int .u8 0, .int .u8 0] 56) := ⟨_, rfl⟩
  rw [← hw1] at h1
  have H1 := Lib.hid h1
  have HW := Lib.hid hw1
  have HZ := Lib.hid (show zero64.length = 64 from rfl)
  have hA := Lib.hid h1.sum.at_
  have R1 := h1.res
  have HS1 := Lib.hid h1.size
  have hcl := cutN_lt h2
  have hcp := cutN_pos size
  obtain ⟨k, hk0⟩ : ∃ k, cutN size = k := ⟨_, rfl⟩
  rw [hk0] at hcl hcp ha ih
  have ns : ((from_ : Int) == (size : Int)) = false := by simp; omega
  have hle : ¬ (from_ : Int) ≤ (k : Int) := by omega
  obtain ⟨d, hd0⟩ : ∃ d, from_ - k = d := ⟨_, rfl⟩
  obtain ⟨q, hq0⟩ : ∃ q, size - k = q := ⟨_, rfl⟩
  rw [hd0, hq0] at ih
  have ea : IntKind.u64.wrap ((from_ : Int) - (k : Int)) = (d : Int) := by rw [IntKind.wrap_u64]; omega
  have em : IntKind.u64.wrap ((size : Int) - (k : Int)) = (q : Int) := by rw [IntKind.wrap_u64]; omega
  have CM := Lib.hid (refCut_all size w1 h2 hz)
  rw [hk0] at CM
  have IH := Lib.hid (ih w1 h1.below)
  have hPQ : (P ++ Q).length = 64 := by rw [List.length_append]; omega
  have HNO := Lib.hid hno
  clear h1 hw1 ih hk0 hcl hcp h2 hz hfs ha hno hPl hQl hd0 hq0
  unfold sv
  go_enter Tryz.func17, Tryz.ntmps17
  go_upto_region 1 with fail
  rw [← HW.out]
  go_wp2_with fail
  refine CM.out.mono ?_
  rintro e w2 ⟨rfl, hww⟩
  subst hww
  go_wp2_with (with_reducible refine wpList_load_sum rfl (.tmp 7) rfl ⟨w.heap.size, 0, none⟩ rfl a hal hA.out ?_)
  refine IH.out.mono ?_
  rintro e w3 ⟨rfl, hb3⟩
  have R3 : BArr w3 (w.heap.size + 1) 56 zero64 := R1.below hb3
  have B3 := Lib.hid (below_on H1.out.below (Nat.le_refl _) hb3)
  have S3 := Lib.hid hb3.size
  clear hb3 R1
  go_upto_region 14 with (with_reducible refine wpList_store_newBoth w3 _ rfl rfl (.tmp 17) (.tmp 85) rfl rfl (P ++ Q) hPQ rfl ?_)
  have b4 := below_alloc w3 (.cells (bvs (P ++ Q)).toArray 56)
  have g4 := BArr.new w3 56 (P ++ Q)
  obtain ⟨w4, hw4⟩ : ∃ w4, w4 = w3.alloc (.cells (bvs (P ++ Q)).toArray 56) := ⟨_, rfl⟩
  rw [← hw4] at b4 g4 ⊢
  have R4 : BArr w4 (w.heap.size + 1) 56 zero64 := R3.below b4
  have B4 := Lib.hid (below_on B3.out (Nat.le_refl _) b4)
  have G4 := Lib.hid g4
  clear hw4 b4 g4 R3
  have hz := HZ.out
  have r4 : BArr (w4.setRow (w.heap.size + 1) (bvs zero64).toArray) (w.heap.size + 1) 56 zero64 := R4.setRow _
  cases ok with
  | false =>
    go_wp2_with (with_reducible refine wpList_store_both rfl (.tmp 10) (.tmp 95) rfl (w.heap.size + 1) rfl zero64 zero64 hz hz R4 rfl ?_)
    refine bodyPost_ret_by (v := .tuple #[sv zero64, .slice none 0 0, .bool false]) (results_cell_tmp2 (p := 10) (q := 11) (r := 12) (ty := 56) (by kernel_rfl) _ _ ⟨w.heap.size + 1, 0, none⟩ (sv (zero64)) rfl (run_load_both _ _ _ hz r4.at_)) rfl ?_
    exact ⟨rfl, below_setRow B4.out (Nat.le_succ _) _⟩
  | true =>
    obtain rfl : m1 = 0 := by have := HNO.out; simpa using this
    go_wp2_with (with_reducible refine wpList_store_both rfl (.tmp 10) (.tmp 95) rfl (w.heap.size + 1) rfl zero64 zero64 hz hz R4 rfl ?_)
    refine bodyPost_ret_by (v := .tuple #[sv zero64, .slice none 0 0, .bool false]) (results_cell_tmp2 (p := 10) (q := 11) (r := 12) (ty := 56) (by kernel_rfl) _ _ ⟨w.heap.size + 1, 0, none⟩ (sv (zero64)) rfl (run_load_both _ _ _ hz r4.at_)) rfl ?_
    exact ⟨rfl, below_setRow B4.out (Nat.le_succ _) _⟩

set_option maxRecDepth 100000 in
set_option maxHeartbeats 4000000 in
theorem rl_low_go {P Q s : List Nat} {A1 : Option Addr} {A' : Option Addr} {ad1 : Addr} {m1 c1 : Nat} (hal : a.length = 32) (hPl : P.length = 32) (hQl : Q.length = 32) (h2 : 2 ≤ size) (hz : size < 18446744073709551616) (hfs : from_ < size) (ha : from_ ≤ cutN size)
    (ih : ∀ W : World, Below w.heap.size w W → Calls Tryz.prog 17 #[.int .u64 (from_ : Nat), .int .u64 ((cutN size) : Nat), sv a, .slice A m c, .bool edge] W fun e w' => e = .returned (.tuple #[sv (P ++ Q), .slice A1 m1 c1, .bool true]) ∧ Below W.heap.size W w')
    (hA1 : A1 = some ad1) (hm : 0 < m1) (hsl : s.length = 32) (hsb : ∀ x ∈ s, x < 256) (hQb : ∀ x ∈ Q, x < 256) (hat : At w ad1 s)
    (hcut : ∀ W : World, (Instr.slice 22 (.slice (some ad1) m1 c1) (some (.int .i64 1)) none none).run Tryz.prog W = .ok (.slice A' (m1 - 1) (c1 - 1)) W) :
    Calls Tryz.prog 17 #[.int .u64 (from_ : Int), .int .u64 (size : Int), sv a, .slice A m c, .bool edge] w fun e w' => e = .returned (.tuple #[sv (P ++ (nodeL Q s)), .slice A' (m1 - 1) (c1 - 1), .bool true]) ∧ Below w.heap.size w w' := by
  subst hA1
  have e0 : (bvs zero64).toArray = #[.int .u8 0, .int .u8 0, .int .u8 0, .int .u8 0, .int .u8 0, .int .u8 0, .int .u8 0, .int .u8 0, .int .u8 0, .int .u8 0, .int .u8 0, .int .u8 0, .int .u8 0, .int .u8 0, .int .u8 0, .int .u8 0, .int .u8 0, .int .u8 0, .int .u8 0, .int .u8 0, .int .u8 0, .int .u8 0, .int .u8 0, .int .u8 0, .int .u8 0, .int .u8 0, .int .u8 0, .int .u8 0, .int .u8 0, .int .u8 0, .int .u8 0, .int .u8 0, .int .u8 0, .int .u8 0, .int .u8 0, .int .u8 0, .int .u8 0, .int .u8 0, .int .u8 0, .int .u8 0, .int .u8 0, .int .u8 0, .int .u8 0, .int .u8 0, .int .u8 0, .int .u8 0, .int .u8 0, .int .u8 0, .int .u8 0, .int .u8 0, .int .u8 0, .int .u8 0, .int .u8 0, .int .u8 0, .int .u8 0, .int .u8 0, .int .u8 0, .int .u8 0, .int .u8 0, .int .u8 0, .int .u8 0, .int .u8 0, .int .u8 0, .int .u8 0] := rfl
  have h1 := rleadIn_of w a
  rw [e0] at h1
  clear e0
  obtain ⟨w1, hw1⟩ : ∃ w1, w1 = (w.alloc (.cells (bvs a).toArray 25)).alloc (.cells #[.int .u8 0, .int .u8 0, .int .u8 0, .int .u8 0, .int .u8 0, .int .u8 0, .int .u8 0, .int .u8 0, .int .u8 0, .int .u8 0, .int .u8 0, .int .u8 0, .int .u8 0, .int .u8 0, .int .u8 0, .int .u8 0, .int .u8 0, .int .u8 0, .int .u8 0, .int .u8 0, .int .u8 0, .int .u8 0, .int .u8 0, .int .u8 0, .int .u8 0, .int .u8 0, .int .u8 0, .int .u8 0, .int .u8 0, .int .u8 0, .int .u8 0, .int .u8 0, .int .u8 0, .int .u8 0, .int .u8 0, .int .u8 0, .int .u8 0, .int .u8 0, .int .u8 0, .int .u8 0, .int .u8 0, .int .u8 0, .int .u8 0, .int .u8 0, .int .u8 0, .int .u8 0, .int .u8 0, .int .u8 0, .int .u8 0, .int .u8 0, .int .u8 0, .int .u8 0, .int .u8 0, .int .u8 0, .int .u8 0, .int .u8 0, .int .u8 0, .int .u8 0, .int .u8 0, .int .u8 0, .int .u8 0, .int .u8 0, .int .u8 0, .int .u8 0] 56) := ⟨_, rfl⟩
  rw [← hw1] at h1
  have H1 := Lib.hid h1
  have HW := Lib.hid hw1
  have HZ := Lib.hid (show zero64.length = 64 from rfl)
  have hA := Lib.hid h1.sum.at_
  have R1 := h1.res
  have HS1 := Lib.hid h1.size
  have hcl := cutN_lt h2
  have hcp := cutN_pos size
  obtain ⟨k, hk0⟩ : ∃ k, cutN size = k := ⟨_, rfl⟩
  rw [hk0] at hcl hcp ha ih
  have ns : ((from_ : Int) == (size : Int)) = false := by simp; omega
  have hle : (from_ : Int) ≤ (k : Int) := by omega
  have CM := Lib.hid (refCut_all size w1 h2 hz)
  rw [hk0] at CM
  have IH := Lib.hid (ih w1 h1.below)
  have hPQ : (P ++ Q).length = 64 := by rw [List.length_append]; omega
  have hm0 : ((m1 : Int) == 0) = false := by simp; omega
  have hmp : (0 : Int) < (m1 : Int) := by omega
  have HAT := Lib.hid hat
  obtain ⟨mm, hmm⟩ : ∃ mm, m1 - 1 = mm := ⟨_, rfl⟩
  obtain ⟨cc, hcc⟩ : ∃ cc, c1 - 1 = cc := ⟨_, rfl⟩
  rw [hmm, hcc] at hcut ⊢
  have HB := Lib.hid (And.intro hsb hQb)
  clear h1 hw1 ih hk0 hcl hcp h2 hz hfs ha hmm hcc hat hsb hQb
  unfold sv
  go_enter Tryz.func17, Tryz.ntmps17
  go_upto_region 1 with fail
  rw [← HW.out]
  go_wp2_with fail
  refine CM.out.mono ?_
  rintro e w2 ⟨rfl, hww⟩
  subst hww
  go_wp2_with (with_reducible refine wpList_load_sum rfl (.tmp 7) rfl ⟨w.heap.size, 0, none⟩ rfl a hal hA.out ?_)
  refine IH.out.mono ?_
  rintro e w3 ⟨rfl, hb3⟩
  have R3 : BArr w3 (w.heap.size + 1) 56 zero64 := R1.below hb3
  have B3 := Lib.hid (below_on H1.out.below (Nat.le_refl _) hb3)
  have S3 := Lib.hid hb3.size
  clear hb3 R1
  go_upto_region 10 with (with_reducible refine wpList_store_newBoth w3 _ rfl rfl (.tmp 14) (.tmp 53) rfl rfl (P ++ Q) hPQ rfl ?_)
  have b4 := below_alloc w3 (.cells (bvs (P ++ Q)).toArray 56)
  have g4 := BArr.new w3 56 (P ++ Q)
  obtain ⟨w4, hw4⟩ : ∃ w4, w4 = w3.alloc (.cells (bvs (P ++ Q)).toArray 56) := ⟨_, rfl⟩
  rw [← hw4] at b4 g4 ⊢
  have R4 : BArr w4 (w.heap.size + 1) 56 zero64 := R3.below b4
  have B4 := Lib.hid (below_on B3.out (Nat.le_refl _) b4)
  have G4 := Lib.hid g4
  clear hw4 b4 g4 R3
  go_upto_region 12 with fail
  obtain ⟨pb, hpb⟩ : ∃ pb, w3.heap.size = pb := ⟨_, rfl⟩
  have HPB0 := Lib.hid (And.intro hpb (And.intro S3.out HS1.out))
  have G5 : BArr w4 pb 56 (P ++ Q) := by rw [← hpb]; exact G4.out
  rw [hpb]
  clear hpb
  have hS0 : Below w.heap.size w w4.drew ∧ BArr w4.drew pb 56 (P ++ Q) := ⟨B4.out.drew, G5⟩
  have hB0 : Below w4.heap.size w4 w4.drew := (Below.refl _ _).drew
  refine wp_region_held (S := fun W => Below w.heap.size w W ∧ BArr W pb 56 (P ++ Q)) (by kernel_rfl) ?_
  change wpAnyH _ _ _ _ _ _ _ _ w4.drew
  refine' wpAnyH_take (i := 0) (oi := _) (v := _) ?hi0 (by kernel_rfl) ?hf0 ?hr0 ?hQ0 ?hy0 hS0 ?rest0
  case hi0 => (simp only [List.getElem?_toArray, List.getElem?_cons_zero]; rfl)
  case hf0 => kernel_rfl
  case hr0 => kernel_rfl
  case hQ0 => exact fun _ _ _ h => h
  case hy0 => refine Or.inl ⟨by rfl, ?_⟩; intro W hSw; go_simp; try with_reducible rfl
  try simp only [Act.put, List.setIfInBounds_toArray, List.set_cons_zero, List.set_cons_succ]
  refine' wpAnyH_take (i := 1) (oi := _) (v := sv P) ?hi1 (by kernel_rfl) ?hf1 ?hr1 ?hQ1 ?hy1 hS0 ?rest1
  case hi1 => (simp only [List.getElem?_toArray, List.getElem?_cons_zero, List.getElem?_cons_succ]; rfl)
  case hf1 => kernel_rfl
  case hr1 => kernel_rfl
  case hQ1 => exact fun _ _ _ h => h
  case hy1 => exact yields_sum (by rfl) (.tmp 64) (by rfl) _ (by rfl) P hPl (fun W hSw => hSw.2.first)
  try simp only [Act.put, List.setIfInBounds_toArray, List.set_cons_zero, List.set_cons_succ]
  refine' wpAnyH_take (i := 2) (oi := _) (v := _) ?hi2 (by kernel_rfl) ?hf2 ?hr2 ?hQ2 ?hy2 hS0 ?rest2
  case hi2 => (simp only [List.getElem?_toArray, List.getElem?_cons_zero, List.getElem?_cons_succ]; rfl)
  case hf2 => kernel_rfl
  case hr2 => kernel_rfl
  case hQ2 => exact fun _ _ _ h => h
  case hy2 => refine Or.inl ⟨by rfl, ?_⟩; intro W hSw; go_simp; try with_reducible rfl
  try simp only [Act.put, List.setIfInBounds_toArray, List.set_cons_zero, List.set_cons_succ]
  refine' wpAnyH_take (i := 3) (oi := _) (v := sv Q) ?hi3 (by kernel_rfl) ?hf3 ?hr3 ?hQ3 ?hy3 hS0 ?rest3
  case hi3 => (simp only [List.getElem?_toArray, List.getElem?_cons_zero, List.getElem?_cons_succ]; rfl)
  case hf3 => kernel_rfl
  case hr3 => kernel_rfl
  case hQ3 => exact fun _ _ _ h => h
  case hy3 => exact yields_sum (by rfl) (.tmp 66) (by rfl) _ (by rfl) Q hQl (fun W hSw => (hSw.2.second hPl))
  try simp only [Act.put, List.setIfInBounds_toArray, List.set_cons_zero, List.set_cons_succ]
  refine' wpAnyH_take (i := 4) (oi := _) (v := _) ?hi4 (by kernel_rfl) ?hf4 ?hr4 ?hQ4 ?hy4 hS0 ?rest4
  case hi4 => (simp only [List.getElem?_toArray, List.getElem?_cons_zero, List.getElem?_cons_succ]; rfl)
  case hf4 => kernel_rfl
  case hr4 => kernel_rfl
  case hQ4 => exact fun _ _ _ h => h
  case hy4 => refine Or.inl ⟨by rfl, ?_⟩; intro W hSw; go_simp; try with_reducible rfl
  try simp only [Act.put, List.setIfInBounds_toArray, List.set_cons_zero, List.set_cons_succ]
  refine' wpAnyH_take (i := 5) (oi := _) (v := _) ?hi5 (by kernel_rfl) ?hf5 ?hr5 ?hQ5 ?hy5 hS0 ?rest5
  case hi5 => (simp only [List.getElem?_toArray, List.getElem?_cons_zero, List.getElem?_cons_succ]; rfl)
  case hf5 => kernel_rfl
  case hr5 => kernel_rfl
  case hQ5 => exact fun _ _ _ h => h
  case hy5 => refine Or.inl ⟨by rfl, ?_⟩; intro W hSw; go_simp; try with_reducible rfl
  try simp only [Act.put, List.setIfInBounds_toArray, List.set_cons_zero, List.set_cons_succ]
  refine' wpAnyH_take (i := 6) (oi := _) (v := sv s) ?hi6 (by kernel_rfl) ?hf6 ?hr6 ?hQ6 ?hy6 hS0 ?rest6
  case hi6 => (simp only [List.getElem?_toArray, List.getElem?_cons_zero, List.getElem?_cons_succ]; rfl)
  case hf6 => kernel_rfl
  case hr6 => kernel_rfl
  case hQ6 => exact fun _ _ _ h => h
  case hy6 => exact yields_sum (by rfl) (.tmp 69) (by rfl) _ (by rfl) s hsl (fun W hSw => HAT.out.below hSw.1)
  try simp only [Act.put, List.setIfInBounds_toArray, List.set_cons_zero, List.set_cons_succ]
  refine' wpAnyH_take (i := 9) (oi := _) (v := _) ?hi9 (by kernel_rfl) ?hf9 ?hr9 ?hQ9 ?hy9 hS0 ?rest9
  case hi9 => (simp only [List.getElem?_toArray, List.getElem?_cons_zero, List.getElem?_cons_succ]; rfl)
  case hf9 => kernel_rfl
  case hr9 => kernel_rfl
  case hQ9 => exact fun _ _ _ h => h
  case hy9 => refine Or.inl ⟨by rfl, ?_⟩; intro W hSw; go_simp; try with_reducible rfl
  try simp only [Act.put, List.setIfInBounds_toArray, List.set_cons_zero, List.set_cons_succ]
  refine' wpAnyH_take (i := 10) (oi := _) (v := _) ?hi10 (by kernel_rfl) ?hf10 ?hr10 ?hQ10 ?hy10 hS0 ?rest10
  case hi10 => (simp only [List.getElem?_toArray, List.getElem?_cons_zero, List.getElem?_cons_succ]; rfl)
  case hf10 => kernel_rfl
  case hr10 => kernel_rfl
  case hQ10 => exact fun _ _ _ h => h
  case hy10 => refine Or.inl ⟨by rfl, ?_⟩; intro W hSw; go_simp; try with_reducible rfl
  try simp only [Act.put, List.setIfInBounds_toArray, List.set_cons_zero, List.set_cons_succ]
  refine wpAnyH_ready (rs := [7]) (by kernel_rfl) (by simp) ?_
  refine' AllReadyH.cons (o := _) ?hi7 (fun K hK => ?_) AllReadyH.nil
  case hi7 => (simp only [List.getElem?_toArray, List.getElem?_cons_zero, List.getElem?_cons_succ]; rfl)
  rw [if_pos (by rfl)]
  go_simp
  refine (refNode_any Q s w4.drew hQl hsl HB.out.2 HB.out.1).mono ?_
  rintro e W1 ⟨rfl, hb1⟩
  have hS1 := And.intro (below_on hS0.1 (Nat.le_refl _) hb1) (hS0.2.below hb1)
  have hB1 := below_on hB0 (Nat.le_refl _) hb1
  refine hK.out _ _ hS1 (fun _ => ?_)
  clear hK K
  try simp only [Act.put, List.setIfInBounds_toArray, List.set_cons_zero, List.set_cons_succ]
  refine' wpAnyH_take (i := 8) (oi := _) (v := sv (P ++ nodeL Q s)) ?hi8 (by kernel_rfl) ?hf8 ?hr8 ?hQ8 ?hy8 hS1 ?rest8
  case hi8 => (simp only [List.getElem?_toArray, List.getElem?_cons_zero, List.getElem?_cons_succ]; rfl)
  case hf8 => kernel_rfl
  case hr8 => kernel_rfl
  case hQ8 => exact fun _ _ _ h => h
  case hy8 => exact yields_build_both (by rfl) (.tmp 65) (.tmp 71) (by rfl) P (nodeL Q s) (by rfl) (by rfl) hPl (nodeL_length _ _)
  try simp only [Act.put, List.setIfInBounds_toArray, List.set_cons_zero, List.set_cons_succ]
  have hPR : (P ++ (nodeL Q s)).length = 64 := by rw [List.length_append]; have := nodeL_length; simp only [*]
  have RW : BArr W1 (w.heap.size + 1) 56 zero64 := R4.below hB1
  refine wpAnyH_ready (rs := [11]) (by kernel_rfl) (by simp) ?_
  refine' AllReadyH.cons (o := _) ?hi11 (fun K hK => ?_) AllReadyH.nil
  case hi11 => (simp only [List.getElem?_toArray, List.getElem?_cons_zero, List.getElem?_cons_succ]; rfl)
  rw [if_pos (by rfl)]
  refine step_store_both (.tmp 10) (.tmp 72) rfl (w.heap.size + 1) rfl zero64 (P ++ (nodeL Q s)) HZ.out hPR RW rfl ?_
  have r7 : BArr (W1.setRow (w.heap.size + 1) (bvs (P ++ (nodeL Q s))).toArray) (w.heap.size + 1) 56 (P ++ (nodeL Q s)) := RW.setRow _
  have hS9 : Below w.heap.size w (W1.setRow (w.heap.size + 1) (bvs (P ++ (nodeL Q s))).toArray) ∧ BArr (W1.setRow (w.heap.size + 1) (bvs (P ++ (nodeL Q s))).toArray) pb 56 (P ++ Q) :=
    ⟨below_setRow hS1.1 (Nat.le_succ _) _, hS1.2.setRow_other _ (by have := HPB0.out; omega) _⟩
  refine hK.out _ _ hS9 (fun _ => ?_)
  clear hK K
  refine' wpAnyH_take (i := 12) (oi := _) (v := _) ?hi12 (by kernel_rfl) ?hf12 ?hr12 ?hQ12 ?hy12 hS9 ?rest12
  case hi12 => (simp only [List.getElem?_toArray, List.getElem?_cons_zero, List.getElem?_cons_succ]; rfl)
  case hf12 => kernel_rfl
  case hr12 => kernel_rfl
  case hQ12 => exact fun _ _ _ h => h
  case hy12 => refine Or.inl ⟨by rfl, ?_⟩; intro W hSw; go_simp; try with_reducible rfl
  try simp only [Act.put, List.setIfInBounds_toArray, List.set_cons_zero, List.set_cons_succ]
  refine' wpAnyH_take (i := 13) (oi := _) (v := _) ?hi13 (by kernel_rfl) ?hf13 ?hr13 ?hQ13 ?hy13 hS9 ?rest13
  case hi13 => (simp only [List.getElem?_toArray, List.getElem?_cons_zero, List.getElem?_cons_succ]; rfl)
  case hf13 => kernel_rfl
  case hr13 => kernel_rfl
  case hQ13 => exact fun _ _ _ h => h
  case hy13 => refine Or.inl ⟨by rfl, ?_⟩; intro W hSw; go_simp; try with_reducible rfl
  try simp only [Act.put, List.setIfInBounds_toArray, List.set_cons_zero, List.set_cons_succ]
  refine wpAnyH_done (by kernel_rfl) ?_ _
  go_wp2
  refine bodyPost_ret_by (v := .tuple #[sv (P ++ (nodeL Q s)), .slice A' mm cc, .bool true]) (results_cell_tmp2 (p := 10) (q := 11) (r := 12) (ty := 56) (by kernel_rfl) _ _ ⟨w.heap.size + 1, 0, none⟩ (sv (P ++ (nodeL Q s))) rfl (run_load_both _ _ _ hPR r7.at_)) rfl ?_
  exact ⟨rfl, hS9.1⟩

set_option maxRecDepth 100000 in
set_option maxHeartbeats 4000000 in
theorem rl_high_go {P Q s : List Nat} {A1 : Option Addr} {A' : Option Addr} {ad1 : Addr} {m1 c1 : Nat} (hal : a.length = 32) (hPl : P.length = 32) (hQl : Q.length = 32) (h2 : 2 ≤ size) (hz : size < 18446744073709551616) (hfs : from_ < size) (ha : ¬ from_ ≤ cutN size)
    (ih : ∀ W : World, Below w.heap.size w W → Calls Tryz.prog 17 #[.int .u64 ((from_ - cutN size) : Nat), .int .u64 ((size - cutN size) : Nat), sv a, .slice A m c, .bool false] W fun e w' => e = .returned (.tuple #[sv (P ++ Q), .slice A1 m1 c1, .bool true]) ∧ Below W.heap.size W w')
    (hA1 : A1 = some ad1) (hm : 0 < m1) (hsl : s.length = 32) (hsb : ∀ x ∈ s, x < 256) (hPb : ∀ x ∈ P, x < 256) (hQb : ∀ x ∈ Q, x < 256) (hat : At w ad1 s)
    (hcut : ∀ W : World, (Instr.slice 22 (.slice (some ad1) m1 c1) (some (.int .i64 1)) none none).run Tryz.prog W = .ok (.slice A' (m1 - 1) (c1 - 1)) W) :
    Calls Tryz.prog 17 #[.int .u64 (from_ : Int), .int .u64 (size : Int), sv a, .slice A m c, .bool edge] w fun e w' => e = .returned (.tuple #[sv ((nodeL s P) ++ (nodeL s Q)), .slice A' (m1 - 1) (c1 - 1), .bool true]) ∧ Below w.heap.size w w' := by
  subst hA1
  have e0 : (bvs zero64).toArray = #[.int .u8 0, .int .u8 0, .int .u8 0, .int .u8 0, .int .u8 0, .int .u8 0, .int .u8 0, .int .u8 0, .int .u8 0, .int .u8 0, .int .u8 0, .int .u8 0, .int .u8 0, .int .u8 0, .int .u8 0, .int .u8 0, .int .u8 0, .int .u8 0, .int .u8 0, .int .u8 0, .int .u8 0, .int .u8 0, .int .u8 0, .int .u8 0, .int .u8 0, .int .u8 0, .int .u8 0, .int .u8 0, .int .u8 0, .int .u8 0, .int .u8 0, .int .u8 0, .int .u8 0, .int .u8 0, .int .u8 0, .int .u8 0, .int .u8 0, .int .u8 0, .int .u8 0, .int .u8 0, .int .u8 0, .int .u8 0, .int .u8 0, .int .u8 0, .int .u8 0, .int .u8 0, .int .u8 0, .int .u8 0, .int .u8 0, .int .u8 0, .int .u8 0, .int .u8 0, .int .u8 0, .int .u8 0, .int .u8 0, .int .u8 0, .int .u8 0, .int .u8 0, .int .u8 0, .int .u8 0, .int .u8 0, .int .u8 0, .int .u8 0, .int .u8 0] := rfl
  have h1 := rleadIn_of w a
  rw [e0] at h1
  clear e0
  obtain ⟨w1, hw1⟩ : ∃ w1, w1 = (w.alloc (.cells (bvs a).toArray 25)).alloc (.cells #[.int .u8 0, .int .u8 0, .int .u8 0, .int .u8 0, .int .u8 0, .int .u8 0, .int .u8 0, .int .u8 0, .int .u8 0, .int .u8 0, .int .u8 0, .int .u8 0, .int .u8 0, .int .u8 0, .int .u8 0, .int .u8 0, .int .u8 0, .int .u8 0, .int .u8 0, .int .u8 0, .int .u8 0, .int .u8 0, .int .u8 0, .int .u8 0, .int .u8 0, .int .u8 0, .int .u8 0, .int .u8 0, .int .u8 0, .int .u8 0, .int .u8 0, .int .u8 0, .int .u8 0, .int .u8 0, .int .u8 0, .int .u8 0, .int .u8 0, .int .u8 0, .int .u8 0, .int .u8 0, .int .u8 0, .int .u8 0, .int .u8 0, .int .u8 0, .int .u8 0, .int .u8 0, .int .u8 0, .int .u8 0, .int .u8 0, .int .u8 0, .int .u8 0, .int .u8 0, .int .u8 0, .int .u8 0, .int .u8 0, .int .u8 0, .int .u8 0, .int .u8 0, .int .u8 0, .int .u8 0, .int .u8 0, .int .u8 0, .int .u8 0, .int .u8 0] 56) := ⟨_, rfl⟩
  rw [← hw1] at h1
  have H1 := Lib.hid h1
  have HW := Lib.hid hw1
  have HZ := Lib.hid (show zero64.length = 64 from rfl)
  have hA := Lib.hid h1.sum.at_
  have R1 := h1.res
  have HS1 := Lib.hid h1.size
  have hcl := cutN_lt h2
  have hcp := cutN_pos size
  obtain ⟨k, hk0⟩ : ∃ k, cutN size = k := ⟨_, rfl⟩
  rw [hk0] at hcl hcp ha ih
  have ns : ((from_ : Int) == (size : Int)) = false := by simp; omega
  have hle : ¬ (from_ : Int) ≤ (k : Int) := by omega
  obtain ⟨d, hd0⟩ : ∃ d, from_ - k = d := ⟨_, rfl⟩
  obtain ⟨q, hq0⟩ : ∃ q, size - k = q := ⟨_, rfl⟩
  rw [hd0, hq0] at ih
  have ea : IntKind.u64.wrap ((from_ : Int) - (k : Int)) = (d : Int) := by rw [IntKind.wrap_u64]; omega
  have em : IntKind.u64.wrap ((size : Int) - (k : Int)) = (q : Int) := by rw [IntKind.wrap_u64]; omega
  have CM := Lib.hid (refCut_all size w1 h2 hz)
  rw [hk0] at CM
  have IH := Lib.hid (ih w1 h1.below)
  have hPQ : (P ++ Q).length = 64 := by rw [List.length_append]; omega
  have hm0 : ((m1 : Int) == 0) = false := by simp; omega
  have hmp : (0 : Int) < (m1 : Int) := by omega
  have HAT := Lib.hid hat
  obtain ⟨mm, hmm⟩ : ∃ mm, m1 - 1 = mm := ⟨_, rfl⟩
  obtain ⟨cc, hcc⟩ : ∃ cc, c1 - 1 = cc := ⟨_, rfl⟩
  rw [hmm, hcc] at hcut ⊢
  have HB := Lib.hid (And.intro hsb hQb)
  have HPB := Lib.hid hPb
  clear h1 hw1 ih hk0 hcl hcp h2 hz hfs ha hmm hcc hat hsb hQb hPb hd0 hq0
  unfold sv
  go_enter Tryz.func17, Tryz.ntmps17
  go_upto_region 1 with fail
  rw [← HW.out]
  go_wp2_with fail
  refine CM.out.mono ?_
  rintro e w2 ⟨rfl, hww⟩
  subst hww
  go_wp2_with (with_reducible refine wpList_load_sum rfl (.tmp 7) rfl ⟨w.heap.size, 0, none⟩ rfl a hal hA.out ?_)
  refine IH.out.mono ?_
  rintro e w3 ⟨rfl, hb3⟩
  have R3 : BArr w3 (w.heap.size + 1) 56 zero64 := R1.below hb3
  have B3 := Lib.hid (below_on H1.out.below (Nat.le_refl _) hb3)
  have S3 := Lib.hid hb3.size
  clear hb3 R1
  go_upto_region 14 with (with_reducible refine wpList_store_newBoth w3 _ rfl rfl (.tmp 17) (.tmp 85) rfl rfl (P ++ Q) hPQ rfl ?_)
  have b4 := below_alloc w3 (.cells (bvs (P ++ Q)).toArray 56)
  have g4 := BArr.new w3 56 (P ++ Q)
  obtain ⟨w4, hw4⟩ : ∃ w4, w4 = w3.alloc (.cells (bvs (P ++ Q)).toArray 56) := ⟨_, rfl⟩
  rw [← hw4] at b4 g4 ⊢
  have R4 : BArr w4 (w.heap.size + 1) 56 zero64 := R3.below b4
  have B4 := Lib.hid (below_on B3.out (Nat.le_refl _) b4)
  have G4 := Lib.hid g4
  clear hw4 b4 g4 R3
  go_upto_region 16 with fail
  obtain ⟨pb, hpb⟩ : ∃ pb, w3.heap.size = pb := ⟨_, rfl⟩
  have HPB0 := Lib.hid (And.intro hpb (And.intro S3.out HS1.out))
  have G5 : BArr w4 pb 56 (P ++ Q) := by rw [← hpb]; exact G4.out
  rw [hpb]
  clear hpb
  have hS0 : Below w.heap.size w w4.drew ∧ BArr w4.drew pb 56 (P ++ Q) := ⟨B4.out.drew, G5⟩
  have hB0 : Below w4.heap.size w4 w4.drew := (Below.refl _ _).drew
  refine wp_region_held (S := fun W => Below w.heap.size w W ∧ BArr W pb 56 (P ++ Q)) (by kernel_rfl) ?_
  change wpAnyH _ _ _ _ _ _ _ _ w4.drew
  refine' wpAnyH_take (i := 0) (oi := _) (v := _) ?hi0 (by kernel_rfl) ?hf0 ?hr0 ?hQ0 ?hy0 hS0 ?rest0
  case hi0 => (simp only [List.getElem?_toArray, List.getElem?_cons_zero]; rfl)
  case hf0 => kernel_rfl
  case hr0 => kernel_rfl
  case hQ0 => exact fun _ _ _ h => h
  case hy0 => refine Or.inl ⟨by rfl, ?_⟩; intro W hSw; go_simp; try with_reducible rfl
  try simp only [Act.put, List.setIfInBounds_toArray, List.set_cons_zero, List.set_cons_succ]
  refine' wpAnyH_take (i := 1) (oi := _) (v := _) ?hi1 (by kernel_rfl) ?hf1 ?hr1 ?hQ1 ?hy1 hS0 ?rest1
  case hi1 => (simp only [List.getElem?_toArray, List.getElem?_cons_zero, List.getElem?_cons_succ]; rfl)
  case hf1 => kernel_rfl
  case hr1 => kernel_rfl
  case hQ1 => exact fun _ _ _ h => h
  case hy1 => refine Or.inl ⟨by rfl, ?_⟩; intro W hSw; go_simp; try with_reducible rfl
  try simp only [Act.put, List.setIfInBounds_toArray, List.set_cons_zero, List.set_cons_succ]
  refine' wpAnyH_take (i := 2) (oi := _) (v := sv s) ?hi2 (by kernel_rfl) ?hf2 ?hr2 ?hQ2 ?hy2 hS0 ?rest2
  case hi2 => (simp only [List.getElem?_toArray, List.getElem?_cons_zero, List.getElem?_cons_succ]; rfl)
  case hf2 => kernel_rfl
  case hr2 => kernel_rfl
  case hQ2 => exact fun _ _ _ h => h
  case hy2 => exact yields_sum (by rfl) (.tmp 97) (by rfl) _ (by rfl) s hsl (fun W hSw => HAT.out.below hSw.1)
  try simp only [Act.put, List.setIfInBounds_toArray, List.set_cons_zero, List.set_cons_succ]
  refine' wpAnyH_take (i := 3) (oi := _) (v := _) ?hi3 (by kernel_rfl) ?hf3 ?hr3 ?hQ3 ?hy3 hS0 ?rest3
  case hi3 => (simp only [List.getElem?_toArray, List.getElem?_cons_zero, List.getElem?_cons_succ]; rfl)
  case hf3 => kernel_rfl
  case hr3 => kernel_rfl
  case hQ3 => exact fun _ _ _ h => h
  case hy3 => refine Or.inl ⟨by rfl, ?_⟩; intro W hSw; go_simp; try with_reducible rfl
  try simp only [Act.put, List.setIfInBounds_toArray, List.set_cons_zero, List.set_cons_succ]
  refine' wpAnyH_take (i := 4) (oi := _) (v := sv P) ?hi4 (by kernel_rfl) ?hf4 ?hr4 ?hQ4 ?hy4 hS0 ?rest4
  case hi4 => (simp only [List.getElem?_toArray, List.getElem?_cons_zero, List.getElem?_cons_succ]; rfl)
  case hf4 => kernel_rfl
  case hr4 => kernel_rfl
  case hQ4 => exact fun _ _ _ h => h
  case hy4 => exact yields_sum (by rfl) (.tmp 99) (by rfl) _ (by rfl) P hPl (fun W hSw => hSw.2.first)
  try simp only [Act.put, List.setIfInBounds_toArray, List.set_cons_zero, List.set_cons_succ]
  refine' wpAnyH_take (i := 6) (oi := _) (v := _) ?hi6 (by kernel_rfl) ?hf6 ?hr6 ?hQ6 ?hy6 hS0 ?rest6
  case hi6 => (simp only [List.getElem?_toArray, List.getElem?_cons_zero, List.getElem?_cons_succ]; rfl)
  case hf6 => kernel_rfl
  case hr6 => kernel_rfl
  case hQ6 => exact fun _ _ _ h => h
  case hy6 => refine Or.inl ⟨by rfl, ?_⟩; intro W hSw; go_simp; try with_reducible rfl
  try simp only [Act.put, List.setIfInBounds_toArray, List.set_cons_zero, List.set_cons_succ]
  refine' wpAnyH_take (i := 7) (oi := _) (v := _) ?hi7 (by kernel_rfl) ?hf7 ?hr7 ?hQ7 ?hy7 hS0 ?rest7
  case hi7 => (simp only [List.getElem?_toArray, List.getElem?_cons_zero, List.getElem?_cons_succ]; rfl)
  case hf7 => kernel_rfl
  case hr7 => kernel_rfl
  case hQ7 => exact fun _ _ _ h => h
  case hy7 => refine Or.inl ⟨by rfl, ?_⟩; intro W hSw; go_simp; try with_reducible rfl
  try simp only [Act.put, List.setIfInBounds_toArray, List.set_cons_zero, List.set_cons_succ]
  refine' wpAnyH_take (i := 8) (oi := _) (v := sv s) ?hi8 (by kernel_rfl) ?hf8 ?hr8 ?hQ8 ?hy8 hS0 ?rest8
  case hi8 => (simp only [List.getElem?_toArray, List.getElem?_cons_zero, List.getElem?_cons_succ]; rfl)
  case hf8 => kernel_rfl
  case hr8 => kernel_rfl
  case hQ8 => exact fun _ _ _ h => h
  case hy8 => exact yields_sum (by rfl) (.tmp 103) (by rfl) _ (by rfl) s hsl (fun W hSw => HAT.out.below hSw.1)
  try simp only [Act.put, List.setIfInBounds_toArray, List.set_cons_zero, List.set_cons_succ]
  refine' wpAnyH_take (i := 9) (oi := _) (v := _) ?hi9 (by kernel_rfl) ?hf9 ?hr9 ?hQ9 ?hy9 hS0 ?rest9
  case hi9 => (simp only [List.getElem?_toArray, List.getElem?_cons_zero, List.getElem?_cons_succ]; rfl)
  case hf9 => kernel_rfl
  case hr9 => kernel_rfl
  case hQ9 => exact fun _ _ _ h => h
  case hy9 => refine Or.inl ⟨by rfl, ?_⟩; intro W hSw; go_simp; try with_reducible rfl
  try simp only [Act.put, List.setIfInBounds_toArray, List.set_cons_zero, List.set_cons_succ]
  refine' wpAnyH_take (i := 10) (oi := _) (v := sv Q) ?hi10 (by kernel_rfl) ?hf10 ?hr10 ?hQ10 ?hy10 hS0 ?rest10
  case hi10 => (simp only [List.getElem?_toArray, List.getElem?_cons_zero, List.getElem?_cons_succ]; rfl)
  case hf10 => kernel_rfl
  case hr10 => kernel_rfl
  case hQ10 => exact fun _ _ _ h => h
  case hy10 => exact yields_sum (by rfl) (.tmp 105) (by rfl) _ (by rfl) Q hQl (fun W hSw => (hSw.2.second hPl))
  try simp only [Act.put, List.setIfInBounds_toArray, List.set_cons_zero, List.set_cons_succ]
  refine' wpAnyH_take (i := 13) (oi := _) (v := _) ?hi13 (by kernel_rfl) ?hf13 ?hr13 ?hQ13 ?hy13 hS0 ?rest13
  case hi13 => (simp only [List.getElem?_toArray, List.getElem?_cons_zero, List.getElem?_cons_succ]; rfl)
  case hf13 => kernel_rfl
  case hr13 => kernel_rfl
  case hQ13 => exact fun _ _ _ h => h
  case hy13 => refine Or.inl ⟨by rfl, ?_⟩; intro W hSw; go_simp; try with_reducible rfl
  try simp only [Act.put, List.setIfInBounds_toArray, List.set_cons_zero, List.set_cons_succ]
  refine' wpAnyH_take (i := 14) (oi := _) (v := _) ?hi14 (by kernel_rfl) ?hf14 ?hr14 ?hQ14 ?hy14 hS0 ?rest14
  case hi14 => (simp only [List.getElem?_toArray, List.getElem?_cons_zero, List.getElem?_cons_succ]; rfl)
  case hf14 => kernel_rfl
  case hr14 => kernel_rfl
  case hQ14 => exact fun _ _ _ h => h
  case hy14 => refine Or.inl ⟨by rfl, ?_⟩; intro W hSw; go_simp; try with_reducible rfl
  try simp only [Act.put, List.setIfInBounds_toArray, List.set_cons_zero, List.set_cons_succ]
  refine wpAnyH_ready (rs := [5]) (by kernel_rfl) (by simp) ?_
  refine' AllReadyH.cons (o := _) ?hi5 (fun K hK => ?_) AllReadyH.nil
  case hi5 => (simp only [List.getElem?_toArray, List.getElem?_cons_zero, List.getElem?_cons_succ]; rfl)
  rw [if_pos (by rfl)]
  go_simp
  refine (refNode_any s P w4.drew hsl hPl HB.out.1 HPB.out).mono ?_
  rintro e W1 ⟨rfl, hb1⟩
  have hS1 := And.intro (below_on hS0.1 (Nat.le_refl _) hb1) (hS0.2.below hb1)
  have hB1 := below_on hB0 (Nat.le_refl _) hb1
  refine hK.out _ _ hS1 (fun _ => ?_)
  clear hK K
  try simp only [Act.put, List.setIfInBounds_toArray, List.set_cons_zero, List.set_cons_succ]
  refine wpAnyH_ready (rs := [11]) (by kernel_rfl) (by simp) ?_
  refine' AllReadyH.cons (o := _) ?hi11 (fun K hK => ?_) AllReadyH.nil
  case hi11 => (simp only [List.getElem?_toArray, List.getElem?_cons_zero, List.getElem?_cons_succ]; rfl)
  rw [if_pos (by rfl)]
  go_simp
  refine (refNode_any s Q W1 hsl hQl HB.out.1 HB.out.2).mono ?_
  rintro e W2 ⟨rfl, hb2⟩
  have hS2 := And.intro (below_on hS1.1 (Nat.le_refl _) hb2) (hS1.2.below hb2)
  have hB2 := below_on hB1 (Nat.le_refl _) hb2
  refine hK.out _ _ hS2 (fun _ => ?_)
  clear hK K
  try simp only [Act.put, List.setIfInBounds_toArray, List.set_cons_zero, List.set_cons_succ]
  refine' wpAnyH_take (i := 12) (oi := _) (v := sv (nodeL s P ++ nodeL s Q)) ?hi12 (by kernel_rfl) ?hf12 ?hr12 ?hQ12 ?hy12 hS2 ?rest12
  case hi12 => (simp only [List.getElem?_toArray, List.getElem?_cons_zero, List.getElem?_cons_succ]; rfl)
  case hf12 => kernel_rfl
  case hr12 => kernel_rfl
  case hQ12 => exact fun _ _ _ h => h
  case hy12 => exact yields_build_both (by rfl) (.tmp 101) (.tmp 107) (by rfl) (nodeL s P) (nodeL s Q) (by rfl) (by rfl) (nodeL_length _ _) (nodeL_length _ _)
  try simp only [Act.put, List.setIfInBounds_toArray, List.set_cons_zero, List.set_cons_succ]
  have hPR : ((nodeL s P) ++ (nodeL s Q)).length = 64 := by rw [List.length_append]; have := nodeL_length; simp only [*]
  have RW : BArr W2 (w.heap.size + 1) 56 zero64 := R4.below hB2
  refine wpAnyH_ready (rs := [15]) (by kernel_rfl) (by simp) ?_
  refine' AllReadyH.cons (o := _) ?hi15 (fun K hK => ?_) AllReadyH.nil
  case hi15 => (simp only [List.getElem?_toArray, List.getElem?_cons_zero, List.getElem?_cons_succ]; rfl)
  rw [if_pos (by rfl)]
  refine step_store_both (.tmp 10) (.tmp 108) rfl (w.heap.size + 1) rfl zero64 ((nodeL s P) ++ (nodeL s Q)) HZ.out hPR RW rfl ?_
  have r7 : BArr (W2.setRow (w.heap.size + 1) (bvs ((nodeL s P) ++ (nodeL s Q))).toArray) (w.heap.size + 1) 56 ((nodeL s P) ++ (nodeL s Q)) := RW.setRow _
  have hS9 : Below w.heap.size w (W2.setRow (w.heap.size + 1) (bvs ((nodeL s P) ++ (nodeL s Q))).toArray) ∧ BArr (W2.setRow (w.heap.size + 1) (bvs ((nodeL s P) ++ (nodeL s Q))).toArray) pb 56 (P ++ Q) :=
    ⟨below_setRow hS2.1 (Nat.le_succ _) _, hS2.2.setRow_other _ (by have := HPB0.out; omega) _⟩
  refine hK.out _ _ hS9 (fun _ => ?_)
  clear hK K
  refine' wpAnyH_take (i := 16) (oi := _) (v := _) ?hi16 (by kernel_rfl) ?hf16 ?hr16 ?hQ16 ?hy16 hS9 ?rest16
  case hi16 => (simp only [List.getElem?_toArray, List.getElem?_cons_zero, List.getElem?_cons_succ]; rfl)
  case hf16 => kernel_rfl
  case hr16 => kernel_rfl
  case hQ16 => exact fun _ _ _ h => h
  case hy16 => refine Or.inl ⟨by rfl, ?_⟩; intro W hSw; go_simp; try with_reducible rfl
  try simp only [Act.put, List.setIfInBounds_toArray, List.set_cons_zero, List.set_cons_succ]
  refine' wpAnyH_take (i := 17) (oi := _) (v := _) ?hi17 (by kernel_rfl) ?hf17 ?hr17 ?hQ17 ?hy17 hS9 ?rest17
  case hi17 => (simp only [List.getElem?_toArray, List.getElem?_cons_zero, List.getElem?_cons_succ]; rfl)
  case hf17 => kernel_rfl
  case hr17 => kernel_rfl
  case hQ17 => exact fun _ _ _ h => h
  case hy17 => refine Or.inl ⟨by rfl, ?_⟩; intro W hSw; go_simp; try with_reducible rfl
  try simp only [Act.put, List.setIfInBounds_toArray, List.set_cons_zero, List.set_cons_succ]
  refine wpAnyH_done (by kernel_rfl) ?_ _
  go_wp2
  refine bodyPost_ret_by (v := .tuple #[sv ((nodeL s P) ++ (nodeL s Q)), .slice A' mm cc, .bool true]) (results_cell_tmp2 (p := 10) (q := 11) (r := 12) (ty := 56) (by kernel_rfl) _ _ ⟨w.heap.size + 1, 0, none⟩ (sv ((nodeL s P) ++ (nodeL s Q))) rfl (run_load_both _ _ _ hPR r7.at_)) rfl ?_
  exact ⟨rfl, hS9.1⟩

end

end Go.Proofs.YtilgikhdamkeoaaGreatDoor

/-
  almonerref11.leads whole; almonerref11.Check.
-/
namespace Go.Proofs.YtilgikhdamkeoaaGreatDoor
open Go.RowKit

theorem zero64_two : zero64 = zero32 ++ zero32 := by decide

/-- The first one, and the row of the others. -/
theorem cut_one {A : Option Addr} {m c : Nat} {zs : List Nat} (h : 0 < m) (hc : m ≤ c) : ∃ A' : Option Addr, (∀ W : World, (Instr.slice 22 (.slice A m c) (some (.int .i64 1)) none none).run Tryz.prog W = .ok (.slice A' (m - 1) (c - 1)) W) ∧
    ∀ w : World, InS w A m zs → ∃ ad, A = some ad ∧ (nth zs 0).length = 32 ∧ At w ad (nth zs 0) ∧ InS w A' (m - 1) (zs.drop 32) := by
  obtain ⟨A', hcut, hA'⟩ := cut_nameS (A := A) (n := m) (c := c) (k := 1) (by omega)
  refine ⟨A', hcut, fun w hin => ?_⟩
  obtain ⟨ad, hA, hl, hat⟩ := hin.at_ h
  subst hA
  rw [Nat.zero_mul, add_zero'] at hat
  refine ⟨ad, rfl, hl, hat, ?_⟩
  rw [hA']
  split
  · rename_i e
    obtain rfl : m = 1 := by omega
    have := hin.drop_ 1 (Nat.le_refl _)
    rw [Nat.sub_self, Nat.mul_one] at this
    rw [Nat.sub_self]
    exact ⟨this.len, by rw [List.eq_nil_of_length_eq_zero (l := zs.drop 32) (by rw [this.len])]; exact Rd.nil _ _⟩
  · have := hin.drop_ 1 (by omega)
    rw [Nat.mul_one] at this
    exact this

section
variable {A : Option Addr} {m c : Nat} {zs a : List Nat}

/-- What leads answers, whatever the world, as long as the link stands there. -/
def RCall (A : Option Addr) (m c : Nat) (zs a : List Nat) (from_ size : Nat) (edge : Bool) (X : List Nat) (v : Value) (ok : Bool) : Prop :=
  ∀ w : World, InS w A m zs → Calls Tryz.prog 17 #[.int .u64 (from_ : Int), .int .u64 (size : Int), sv a, .slice A m c, .bool edge] w fun e w' => e = .returned (.tuple #[sv X, v, .bool ok]) ∧ Below w.heap.size w w'

theorem refLeadK_any (hy : ∀ x ∈ zs, x < 256) (hlen : zs.length = 32 * m) (hc : m ≤ c) (hal : a.length = 32) (hab : ∀ x ∈ a, x < 256) :
    ∀ (size from_ : Nat) (edge : Bool), 1 ≤ from_ → from_ ≤ size → size < 18446744073709551616 →
      (ldep from_ size edge ≤ m → ∃ (A' : Option Addr) (c' : Nat), m - ldep from_ size edge ≤ c' ∧ (∀ w : World, InS w A m zs → InS w A' (m - ldep from_ size edge) (zs.drop (32 * ldep from_ size edge))) ∧
        RCall A m c zs a from_ size edge ((linkF (nth zs) a from_ size edge 0).1 ++ (linkF (nth zs) a from_ size edge 0).2) (.slice A' (m - ldep from_ size edge) c') true) ∧
      (m < ldep from_ size edge → RCall A m c zs a from_ size edge zero64 (.slice none 0 0) false) := by
  intro size
  induction size using Nat.strongRecOn with
  | ind size ih =>
    intro from_ edge h1 hfs hz
    by_cases h2 : size < 2 ∨ from_ = size
    · obtain rfl : from_ = size := by omega
      rw [ldep_all h2, linkF_all _ _ h2]
      cases edge with
      | true =>
        refine ⟨fun _ => ⟨A, c, by simpa using hc, fun w h => ?_, fun w h => ?_⟩, fun hh => ?_⟩
        · simpa using h
        · exact rl_edge hal rfl
        · simp at hh
      | false =>
        refine ⟨fun hh => ?_, fun hh => fun w h => ?_⟩
        · have hm : 0 < m := by simp at hh; omega
          obtain ⟨A', hcut, hrest⟩ := cut_one (A := A) (m := m) (c := c) (zs := zs) hm hc
          refine ⟨A', c - 1, by simp; omega, fun w h => ?_, fun w h => ?_⟩
          · obtain ⟨ad, _, _, _, hi⟩ := hrest w h
            exact hi
          · obtain ⟨ad, hA, hl, hat, _⟩ := hrest w h
            have hcut' := hcut
            rw [hA] at hcut'
            exact rl_some hA hm rfl hl hat hcut'
        · exact rl_none (by simp at hh; omega) rfl
    · have hcl := cutN_lt (m := size) (by omega)
      have hcp := cutN_pos size
      have e2 : 2 ≤ size := by omega
      have e3 : from_ < size := by omega
      by_cases ha : from_ ≤ cutN size
      · rw [ldep_low h2 ha, linkF_low _ _ h2 ha]
        have IH := ih (cutN size) hcl from_ edge h1 ha (by omega)
        obtain ⟨d, hd0⟩ : ∃ d, ldep from_ (cutN size) edge = d := ⟨_, rfl⟩
        by_cases hd : ldep from_ (cutN size) edge ≤ m
        · have L := linkF_len (a := a) (n := m) (j := 0) hlen hal (size := cutN size) (from_ := from_) (edge := edge) (by omega)
          have Lb := linkF_lt hy hab (cutN size) from_ 0 edge
          obtain ⟨A1, c1, hcc, hi1, hc1⟩ := IH.1 hd
          rw [hd0] at hcc hi1 hc1 hd ⊢
          refine ⟨fun hh => ?_, fun hh => fun w h => ?_⟩
          · obtain ⟨A2, hcut, hrest⟩ := cut_one (A := A1) (m := m - d) (c := c1) (zs := zs.drop (32 * d)) (by omega) hcc
            refine ⟨A2, c1 - 1, by omega, fun w h => ?_, fun w h => ?_⟩
            · obtain ⟨ad, _, _, _, hi⟩ := hrest w (hi1 w h)
              rw [List.drop_drop] at hi
              rw [show m - (d + 1) = m - d - 1 by omega, show 32 * (d + 1) = 32 * d + 32 by omega]
              exact hi
            · obtain ⟨ad, hA, hl, hat, _⟩ := hrest w (hi1 w h)
              rw [nth_drop, Nat.add_zero] at hl hat
              have hcut' := hcut
              rw [hA] at hcut'
              rw [Nat.zero_add, show m - (d + 1) = m - d - 1 by omega]
              exact rl_low_go hal L.1 L.2 e2 hz e3 ha (fun W hW => hc1 W (h.below hW)) hA (by omega) hl (nth_lt hy d) Lb.2 hat hcut'
          · exact rl_low_fall (ok := true) hal L.1 L.2 e2 hz e3 ha (fun W hW => hc1 W (h.below hW)) (.inr (by omega))
        · refine ⟨fun hh => by omega, fun _ w h => ?_⟩
          have hf := IH.2 (by omega)
          refine rl_low_fall (P := zero32) (Q := zero32) (ok := false) (A1 := none) (m1 := 0) (c1 := 0) hal rfl rfl e2 hz e3 ha (fun W hW => ?_) (.inl rfl)
          rw [← zero64_two]
          exact hf W (h.below hW)
      · rw [ldep_high h2 ha, linkF_high _ _ h2 ha]
        have IH := ih (size - cutN size) (by omega) (from_ - cutN size) false (by omega) (by omega) (by omega)
        obtain ⟨d, hd0⟩ : ∃ d, ldep (from_ - cutN size) (size - cutN size) false = d := ⟨_, rfl⟩
        by_cases hd : ldep (from_ - cutN size) (size - cutN size) false ≤ m
        · have L := linkF_len (a := a) (n := m) (j := 0) hlen hal (size := size - cutN size) (from_ := from_ - cutN size) (edge := false) (by omega)
          have Lb := linkF_lt hy hab (size - cutN size) (from_ - cutN size) 0 false
          obtain ⟨A1, c1, hcc, hi1, hc1⟩ := IH.1 hd
          rw [hd0] at hcc hi1 hc1 hd ⊢
          refine ⟨fun hh => ?_, fun hh => fun w h => ?_⟩
          · obtain ⟨A2, hcut, hrest⟩ := cut_one (A := A1) (m := m - d) (c := c1) (zs := zs.drop (32 * d)) (by omega) hcc
            refine ⟨A2, c1 - 1, by omega, fun w h => ?_, fun w h => ?_⟩
            · obtain ⟨ad, _, _, _, hi⟩ := hrest w (hi1 w h)
              rw [List.drop_drop] at hi
              rw [show m - (d + 1) = m - d - 1 by omega, show 32 * (d + 1) = 32 * d + 32 by omega]
              exact hi
            · obtain ⟨ad, hA, hl, hat, _⟩ := hrest w (hi1 w h)
              rw [nth_drop, Nat.add_zero] at hl hat
              have hcut' := hcut
              rw [hA] at hcut'
              rw [Nat.zero_add, show m - (d + 1) = m - d - 1 by omega]
              exact rl_high_go hal L.1 L.2 e2 hz e3 ha (fun W hW => hc1 W (h.below hW)) hA (by omega) hl (nth_lt hy d) Lb.1 Lb.2 hat hcut'
          · exact rl_high_fall (ok := true) hal L.1 L.2 e2 hz e3 ha (fun W hW => hc1 W (h.below hW)) (.inr (by omega))
        · refine ⟨fun hh => by omega, fun _ w h => ?_⟩
          have hf := IH.2 (by omega)
          refine rl_high_fall (P := zero32) (Q := zero32) (ok := false) (A1 := none) (m1 := 0) (c1 := 0) hal rfl rfl e2 hz e3 ha (fun W hW => ?_) (.inl rfl)
          rw [← zero64_two]
          exact hf W (h.below hW)
end

section
variable {w : World} {n c : Nat} {A : Option Addr} {ys a b : List Nat} {from_ size : Nat}

set_option maxRecDepth 100000 in
set_option maxHeartbeats 2000000 in
theorem refKCheck_far (hge : ¬ (1 ≤ from_ ∧ from_ ≤ size)) :
    Calls Tryz.prog 9 #[.int .u64 (from_ : Int), .int .u64 (size : Int), sv a, sv b, .slice A n c] w fun e w' => e = .returned (.bool false) ∧ Below w.heap.size w w' := by
  have H1 := Lib.hid (kcheckIn_of w a b)
  unfold sv
  by_cases h1 : from_ < 1
  · have hi : (from_ : Int) < 1 := by omega
    go_enter Tryz.func9, Tryz.ntmps9
    go_wp2_with fail
    go_ret
    exact ⟨rfl, H1.out.below⟩
  · have hi : ¬ (from_ : Int) < 1 := by omega
    have hd : decide ((from_ : Int) < 1) = false := by simp; omega
    have hj : (size : Int) < (from_ : Int) := by omega
    go_enter Tryz.func9, Tryz.ntmps9
    go_wp2_with fail
    go_ret
    exact ⟨rfl, H1.out.below⟩

set_option maxRecDepth 100000 in
set_option maxHeartbeats 4000000 in
theorem refKCheck_at {P Q : List Nat} {A' : Option Addr} {m' c' : Nat} (ok z : Bool) (hmz : ((m' : Int) == 0) = z) (hPl : P.length = 32) (hQl : Q.length = 32) (hl : a.length = 32) (hbl : b.length = 32) (h1 : 1 ≤ from_) (hlt : from_ ≤ size)
    (ce : ∀ w' : World, Below w.heap.size w w' → Calls Tryz.prog 17 #[.int .u64 (from_ : Int), .int .u64 (size : Int), sv a, .slice A n c, .bool true] w' fun e w'' => e = .returned (.tuple #[sv (P ++ Q), .slice A' m' c', .bool ok]) ∧ Below w'.heap.size w' w'') :
    Calls Tryz.prog 9 #[.int .u64 (from_ : Int), .int .u64 (size : Int), sv a, sv b, .slice A n c] w fun e w' => e = .returned (.bool (ok && (z && (decide (P = a) && decide (Q = b))))) ∧ Below w.heap.size w w' := by
  obtain ⟨w1, hw1⟩ : ∃ w1, w1 = (w.alloc (.cells (bvs a).toArray 25)).alloc (.cells (bvs b).toArray 25) := ⟨_, rfl⟩
  have k1 := kcheckIn_of w a b
  rw [← hw1] at k1
  have H1 := Lib.hid k1
  have HW := Lib.hid hw1
  have CE := Lib.hid (ce w1 k1.below)
  have hi : ¬ (from_ : Int) < 1 := by omega
  have hd : decide ((from_ : Int) < 1) = false := by simp; omega
  have hj : ¬ (size : Int) < (from_ : Int) := by omega
  have hA := Lib.hid k1.old.at_
  have hPQ : (P ++ Q).length = 64 := by rw [List.length_append]; omega
  have HZ := Lib.hid hmz
  have q1 := run_eql_sum P a hPl hl
  have q2 := run_eql_sum Q b hQl hbl
  have q3 := fun x y => run_guard_eql x y P a
  have q4 := fun x y => run_guard_eql x y Q b
  obtain ⟨u, hu⟩ : ∃ u, decide (P = a) = u := ⟨_, rfl⟩
  obtain ⟨v, hv⟩ : ∃ v, decide (Q = b) = v := ⟨_, rfl⟩
  rw [hu] at q1 ⊢
  rw [hv] at q2 ⊢
  clear k1 hw1 ce hlt h1 hmz hu hv
  unfold sv
  go_enter Tryz.func9, Tryz.ntmps9
  go_upto_region 1 with fail
  rw [← HW.out]
  go_wp2_with (with_reducible refine wpList_load_sum rfl (.tmp 7) rfl ⟨w.heap.size, 0, none⟩ rfl a hl hA.out ?_)
  refine CE.out.mono ?_
  rintro e w2 ⟨rfl, hb2⟩
  have B2 := Lib.hid (below_on H1.out.below (Nat.le_refl _) hb2)
  have b3 := below_alloc w2 (.cells (bvs (P ++ Q)).toArray 56)
  have g3 := BArr.new w2 56 (P ++ Q)
  have O3 := Lib.hid ((H1.out.old.below hb2).below b3).at_
  have N3 := Lib.hid ((H1.out.new.below hb2).below b3).at_
  have HB3 := Lib.hid b3
  have GP := Lib.hid g3.first
  have GQ := Lib.hid (g3.second hPl)
  clear hb2 b3 g3
  go_upto_region 4 with (with_reducible refine wpList_store_newBoth w2 _ rfl rfl (.tmp 11) (.tmp 27) rfl rfl (P ++ Q) hPQ rfl ?_)
  obtain ⟨w3, hw3⟩ : ∃ w3, w3 = w2.alloc (.cells (bvs (P ++ Q)).toArray 56) := ⟨_, rfl⟩
  rw [← hw3] at HB3 O3 N3 GP GQ ⊢
  clear hw3
  have hmz := HZ.out
  cases ok
  · go_wp2_with fail
    go_ret
    exact ⟨rfl, below_on B2.out (Nat.le_refl _) HB3.out⟩
  · cases z
    · go_wp2_with fail
      go_ret
      exact ⟨rfl, below_on B2.out (Nat.le_refl _) HB3.out⟩
    · cases u
      · go_wp2_with (first | with_reducible refine wpList_load_sum_g rfl (.tmp 37) rfl ⟨w2.heap.size, 0, none⟩ rfl P hPl GP.out ?_ | with_reducible refine wpList_load_sum_g rfl (.tmp 7) rfl ⟨w.heap.size, 0, none⟩ rfl a hl O3.out ?_)
        go_ret
        exact ⟨rfl, below_on B2.out (Nat.le_refl _) HB3.out⟩
      · go_wp2_with (first | with_reducible refine wpList_load_sum_g rfl (.tmp 37) rfl ⟨w2.heap.size, 0, none⟩ rfl P hPl GP.out ?_ | with_reducible refine wpList_load_sum_g rfl (.tmp 7) rfl ⟨w.heap.size, 0, none⟩ rfl a hl O3.out ?_ | with_reducible refine wpList_load_sum_g rfl (.tmp 43) rfl ⟨w2.heap.size, 32, none⟩ rfl Q hQl GQ.out ?_ | with_reducible refine wpList_load_sum_g rfl (.tmp 8) rfl ⟨w.heap.size + 1, 0, none⟩ rfl b hbl N3.out ?_)
        go_ret
        exact ⟨rfl, below_on B2.out (Nat.le_refl _) HB3.out⟩

theorem refKCheck_any (hin : InS w A n ys) (hy : ∀ x ∈ ys, x < 256) (hc : n ≤ c) (hal : a.length = 32) (hab : ∀ x ∈ a, x < 256) (hbl : b.length = 32) (hz : size < 18446744073709551616) :
    Calls Tryz.prog 9 #[.int .u64 (from_ : Int), .int .u64 (size : Int), sv a, sv b, .slice A n c] w fun e w' => e = .returned (.bool (begins ys a b n from_ size)) ∧ Below w.heap.size w w' := by
  unfold begins
  by_cases hat : 1 ≤ from_ ∧ from_ ≤ size
  · rw [decide_eq_true hat, Bool.true_and]
    have L0 := refLeadK_any (A := A) (a := a) hy hin.len hc hal hab size from_ true hat.1 hat.2 hz
    by_cases hd : ldep from_ size true ≤ n
    · have L := linkF_len (a := a) (j := 0) (edge := true) hin.len hal (size := size) (from_ := from_) (by omega)
      obtain ⟨A', c', _, _, hcall⟩ := L0.1 hd
      have := refKCheck_at (w := w) (b := b) true (decide (ldep from_ size true = n)) (by
          by_cases he : ldep from_ size true = n
          · simp [he]
          · have : ¬ n - ldep from_ size true = 0 := by omega
            simp [he]; omega) L.1 L.2 hal hbl hat.1 hat.2 (fun w' hb' => hcall w' (hin.below hb'))
      rwa [Bool.true_and] at this
    · rw [decide_eq_false (p := ldep from_ size true = n) (by omega), Bool.false_and]
      have hcall := L0.2 (by omega)
      rw [zero64_two] at hcall
      have := refKCheck_at (w := w) (b := b) (P := zero32) (Q := zero32) false true (m' := 0) rfl rfl rfl hal hbl hat.1 hat.2 (fun w' hb' => hcall w' (hin.below hb'))
      rwa [Bool.false_and] at this
  · rw [decide_eq_false hat, Bool.false_and]
    exact refKCheck_far hat
end

end Go.Proofs.YtilgikhdamkeoaaGreatDoor

/-
  links.linkOf whole; links.Of.
-/
namespace Go.Proofs.YtilgikhdamkeoaaGreatDoor
open Go.RowKit

theorem klink_any : ∀ (n from_ : Nat) (edge : Bool) (A : Option Addr) (c : Nat) (ys : List Nat) (w : World), InS w A n ys → (∀ x ∈ ys, x < 256) → n ≤ c → n ≤ 65536 → 1 ≤ from_ → from_ ≤ n → Knows w → Starts w →
    Calls Tryz.prog 13 #[.slice A n c, .int .i64 (from_ : Int), .bool edge] w (GivesS w.heap.size w (ldep from_ n edge) (linkL (nth ys) 0 n from_ edge).flatten) := by
  intro n
  induction n using Nat.strongRecOn with
  | ind n ih =>
    intro from_ edge A c ys w hin hy hc hn h1 hfn hk hs
    by_cases h2 : n < 2 ∨ from_ = n
    · have hf : from_ = n := by omega
      rw [ldep_all h2, linkL_all _ h2]
      cases edge with
      | true => exact klink_edge hf
      | false =>
        simp only [Bool.false_eq_true, if_false, List.flatten_singleton]
        exact klink_root hf (rt_length _ 0 n fun j hj => nth_length hin.len (by omega)) (root_any A n c ys w hin hy hc (by omega) hk hs)
    · have hcl := cutN_lt (m := n) (by omega)
      have hcp := cutN_pos n
      obtain ⟨ad, rfl⟩ := hin.some_ (by omega)
      have hd := ldep_64 (n := n) (by omega) from_ edge
      have lk : ∀ {i m : Nat}, i + m ≤ n → (rt (nth ys) i m).length = 32 := fun {i m} h => rt_length _ i m fun j hj => nth_length hin.len (by omega)
      have dr : Below w.heap.size w w.drew := (Below.refl _ w).drew
      have ytake : ∀ x ∈ ys.take (32 * cutN n), x < 256 := fun x hx => hy x (List.mem_of_mem_take hx)
      have ydrop : ∀ x ∈ ys.drop (32 * cutN n), x < 256 := fun x hx => hy x (List.mem_of_mem_drop hx)
      by_cases ha : from_ ≤ cutN n
      · rw [ldep_low h2 ha] at hd ⊢
        rw [linkL_low _ h2 ha, List.flatten_append, List.flatten_singleton, Nat.zero_add]
        refine klink_low hc hn (by omega) (by omega) rfl rfl ha (by omega) (lk (by omega)) ?_ ?_
        · have := ih (cutN n) hcl from_ edge (some ad) c (ys.take (32 * cutN n)) w.drew ((hin.take (k := cutN n) (by omega)).below dr) ytake (by omega) (by omega) h1 ha (hk.below dr) (hs.below dr)
          rw [linkL_congr (nth (ys.take (32 * cutN n))) (nth ys) (cutN n) 0 0 from_ edge (fun j hj => by rw [Nat.zero_add]; exact nth_take hj)] at this
          exact this.mono fun e w' ⟨A', c', he, ho, hb⟩ => ⟨A', c', he, ho, dr.trans hb⟩
        · intro W hW
          have := root_any (some (ad.add (cutN n * 32))) (n - cutN n) (c - cutN n) (ys.drop (32 * cutN n)) W ((hin.drop_ _ (by omega)).below hW) ydrop (by omega) (by omega) (hk.below hW) (hs.below hW)
          rw [rt_drop] at this
          exact this
      · rw [ldep_high h2 ha] at hd ⊢
        rw [linkL_high _ h2 ha, List.flatten_append, List.flatten_singleton, Nat.zero_add]
        refine klink_high hc hn (by omega) (by omega) rfl rfl ha rfl (by omega) (lk (by omega)) ?_ ?_
        · have := ih (n - cutN n) (by omega) (from_ - cutN n) false (some (ad.add (cutN n * 32))) (c - cutN n) (ys.drop (32 * cutN n)) w.drew ((hin.drop_ (cutN n) (by omega)).below dr) ydrop (by omega) (by omega) (by omega) (by omega) (hk.below dr) (hs.below dr)
          rw [linkL_congr (nth (ys.drop (32 * cutN n))) (nth ys) (n - cutN n) 0 (cutN n) (from_ - cutN n) false (fun j hj => by rw [Nat.zero_add]; exact nth_drop _ _ _)] at this
          exact this.mono fun e w' ⟨A', c', he, ho, hb⟩ => ⟨A', c', he, ho, dr.trans hb⟩
        · intro W hW
          have := root_any (some ad) (cutN n) c (ys.take (32 * cutN n)) W ((hin.take (by omega)).below hW) ytake (by omega) (by omega) (hk.below hW) (hs.below hW)
          rw [rt_take] at this
          exact this

set_option maxRecDepth 100000 in
set_option maxHeartbeats 1000000 in
/-- links.Of of no beginning. -/
theorem kof_no {w : World} {n c : Nat} {A : Option Addr} (z : Int) (h : z < 1 ∨ (n : Int) < z) :
    Calls Tryz.prog 5 #[.slice A n c, .int .i64 z] w fun e w' => e = .returned (.tuple #[.slice none 0 0, .int .i64 1]) ∧ w' = w := by
  by_cases h0 : z < 1
  · go_enter Tryz.func5, Tryz.ntmps5
    go_wp2_with fail
    go_ret2
    exact ⟨rfl, rfl⟩
  · have h1 : (n : Int) < z := by omega
    have hd : decide (z < 1) = false := by simp; omega
    go_enter Tryz.func5, Tryz.ntmps5
    go_wp2_with fail
    go_ret2
    exact ⟨rfl, rfl⟩

set_option maxRecDepth 100000 in
set_option maxHeartbeats 1000000 in
/-- links.Of. -/
theorem kof_yes {w : World} {n c from_ : Nat} {A : Option Addr} {ys : List Nat} (hin : InS w A n ys) (hy : ∀ x ∈ ys, x < 256) (hc : n ≤ c) (hn : n ≤ 65536) (h1 : 1 ≤ from_) (hfn : from_ ≤ n) (hk : Knows w) (hs : Starts w) :
    Calls Tryz.prog 5 #[.slice A n c, .int .i64 (from_ : Int)] w fun e w' => ∃ A' c', e = .returned (.tuple #[.slice A' (ldep from_ n true) c', .int .i64 0]) ∧ w'.ownsRow w.heap.size 25 32 (.slice A' (ldep from_ n true) c') (ldep from_ n true) (bvs (linkL (nth ys) 0 n from_ true).flatten) ∧ Below w.heap.size w w' := by
  have C := Lib.hid (klink_any n from_ true A c ys w hin hy hc hn h1 hfn hk hs)
  have h0 : ¬ (from_ : Int) < 1 := by omega
  have hd : decide ((from_ : Int) < 1) = false := by simp; omega
  have h2 : ¬ (n : Int) < (from_ : Int) := by omega
  clear hin hy hc hn h1 hfn hk hs
  go_enter Tryz.func5, Tryz.ntmps5
  go_wp2_with fail
  refine C.out.mono ?_
  rintro e w1 ⟨A', c', rfl, ho, hb⟩
  go_wp2_with fail
  go_ret2
  exact ⟨A', c', rfl, ho, hb⟩

end Go.Proofs.YtilgikhdamkeoaaGreatDoor

/-
  TwinSums: a copy in memory of its own, a mark behind it. LeftSums: it is still that copy.
-/
namespace Go.Proofs.YtilgikhdamkeoaaGreatDoor
open Go.RowKit

def markS : List Nat := 77 :: List.replicate 31 0
theorem markS_length : markS.length = 32 := rfl
theorem sv_mark : sv markS = .agg #[.int .u8 77, .int .u8 0, .int .u8 0, .int .u8 0, .int .u8 0, .int .u8 0, .int .u8 0, .int .u8 0, .int .u8 0, .int .u8 0, .int .u8 0, .int .u8 0, .int .u8 0, .int .u8 0, .int .u8 0, .int .u8 0, .int .u8 0, .int .u8 0, .int .u8 0, .int .u8 0, .int .u8 0, .int .u8 0, .int .u8 0, .int .u8 0, .int .u8 0, .int .u8 0, .int .u8 0, .int .u8 0, .int .u8 0, .int .u8 0, .int .u8 0, .int .u8 0] := rfl

theorem mark_eql (W : World) : (binOp .eql 25 (sv markS) (.agg #[.int .u8 77, .int .u8 0, .int .u8 0, .int .u8 0, .int .u8 0, .int .u8 0, .int .u8 0, .int .u8 0, .int .u8 0, .int .u8 0, .int .u8 0, .int .u8 0, .int .u8 0, .int .u8 0, .int .u8 0, .int .u8 0, .int .u8 0, .int .u8 0, .int .u8 0, .int .u8 0, .int .u8 0, .int .u8 0, .int .u8 0, .int .u8 0, .int .u8 0, .int .u8 0, .int .u8 0, .int .u8 0, .int .u8 0, .int .u8 0, .int .u8 0, .int .u8 0])).run Tryz.prog W = .ok (.bool true) W := by
  have := run_eql_sum markS markS markS_length markS_length W
  rw [decide_eq_true rfl] at this
  exact this
theorem mark_guard (x y : Operand) (W : World) : (eqGuard .eql 25 x y (sv markS) (.agg #[.int .u8 77, .int .u8 0, .int .u8 0, .int .u8 0, .int .u8 0, .int .u8 0, .int .u8 0, .int .u8 0, .int .u8 0, .int .u8 0, .int .u8 0, .int .u8 0, .int .u8 0, .int .u8 0, .int .u8 0, .int .u8 0, .int .u8 0, .int .u8 0, .int .u8 0, .int .u8 0, .int .u8 0, .int .u8 0, .int .u8 0, .int .u8 0, .int .u8 0, .int .u8 0, .int .u8 0, .int .u8 0, .int .u8 0, .int .u8 0, .int .u8 0, .int .u8 0])).run Tryz.prog W = .ok () W := run_guard_eql x y markS markS W

/-- '.slice (some ad) n c' is a copy of ys, the mark behind it. -/
structure TwinS (w : World) (ad : Addr) (n c : Nat) (ys : List Nat) : Prop where
  whole : InS w (some ad) (n + 1) (ys ++ markS)
  len : ys.length = 32 * n
  cap : n + 1 ≤ c
theorem TwinS.below {w w' : World} {ad : Addr} {n c : Nat} {ys : List Nat} (h : TwinS w ad n c ys) (hb : Below w.heap.size w w') : TwinS w' ad n c ys := ⟨h.whole.below hb, h.len, h.cap⟩
theorem TwinS.in_ {w : World} {ad : Addr} {n c : Nat} {ys : List Nat} (h : TwinS w ad n c ys) : InS w (some ad) n ys := by
  have := h.whole.take (show n ≤ n + 1 by omega)
  rwa [List.take_left' h.len] at this
theorem TwinS.last {w : World} {ad : Addr} {n c : Nat} {ys : List Nat} (h : TwinS w ad n c ys) : At w (ad.add (n * 32)) markS := by
  obtain ⟨ad', e, hl, hat⟩ := h.whole.at_ (show n < n + 1 by omega)
  cases e
  have hn : nth (ys ++ markS) n = markS := by rw [nth, ← h.len, List.drop_left', List.take_of_length_le (by rw [markS_length]; omega)]; rfl
  rwa [hn] at hat

theorem run_take_cap {ad : Addr} {n c k : Nat} (hc : k ≤ c) (W : World) :
    (Instr.slice 22 (.slice (some ad) n c) none (some (.int .i64 (k : Int))) none).run Tryz.prog W = .ok (.slice (some ad) k c) W := by
  obtain ⟨i0, hi, hz0, hz1, hz2⟩ := info_parts infoSum
  have he : Tryz.prog.elem 22 = 25 := by kernel_rfl
  rw [run_slice_h W 22 (some ad) n c (by rw [he]; exact Tryz.underlying22) .i64 (k : Int) (by omega) (by omega), he]
  simp [sizeOf, typeInfo, hi, hz1, sliced, add_zero']

theorem one_flat (X : List Nat) : [X].flatten = X := by simp
theorem own_some {w : World} {base n c : Nat} {e : TypeId} {A : Option Addr} {xs : List Value} (h : w.ownsRow base e 32 (.slice A n c) n xs) (hn : 0 < n) : ∃ ad, A = some ad := by
  rcases h.2 with ⟨e1, h0⟩ | ⟨g, cap, cur, e1, _⟩
  · omega
  · cases e1
    exact ⟨_, rfl⟩
theorem new_one (W : World) (X : List Nat) (hl : X.length = 32) : InS (W.alloc (.cells (bvs X).toArray 25)) (some ⟨W.heap.size, 0, none⟩) 1 X := ⟨by rw [hl], (In.new' W X 25).rd⟩

/-- Without its last sum a list of the call's own is one, too. -/
theorem own_init {w : World} {base n c : Nat} {A : Option Addr} {ys zs : List Nat} (hl : ys.length = 32 * n) (h : w.ownsRow base 25 32 (.slice A (n + 1) c) (n + 1) (bvs (ys ++ zs))) :
    w.ownsRow base 25 32 (.slice A n c) n (bvs ys) := by
  refine ⟨by rw [bvs_length, hl]; omega, ?_⟩
  rcases h.2 with ⟨_, h0⟩ | ⟨g, cap, cur, e1, hb, hg, hn, hm, hs, hx⟩
  · omega
  · cases e1
    refine .inr ⟨g, _, cur, rfl, hb, hg, by omega, hm, hs, ?_⟩
    have := congrArg (List.take (n * 32)) hx
    rw [List.take_take, Nat.min_eq_left (by omega)] at this
    rw [bvs_append, List.take_left' (by rw [bvs_length, hl]; omega)] at this
    exact this

set_option maxRecDepth 100000 in
set_option maxHeartbeats 4000000 in
theorem twinSums_own (A : Option Addr) (n c : Nat) (ys : List Nat) (w : World) (hin : InS w A n ys) (hn : n ≤ 1000000) :
    Calls Tryz.prog 4 #[.slice A n c] w fun e w' => ∃ ad c', e = .returned (.slice (some ad) n c') ∧ TwinS w' ad n c' ys ∧ Below w.heap.size w w' ∧ w'.ownsRow w.heap.size 25 32 (.slice (some ad) n c') n (bvs ys) := by
  obtain ⟨i0, hi, hz0, hz1, hz2⟩ := info_parts infoSum
  have hm : n + 1 ≤ maxLen := by unfold maxLen; omega
  have HI := Lib.hid hin
  have hml := markS_length
  clear hin
  go_enter Tryz.func4, Tryz.ntmps4
  go_wp2_with (at_make; refine wpList_make_own _ rfl _ _ 22 rfl w.heap.size 25 i0 _ 32 Tryz.underlying22 hi hz0 hz1 _ _ _ (n + 1) rfl rfl (by omega) (by rw [hz2]; omega) hm (Nat.le_refl _) ?_; intro w1 hown1 hgrow1)
  have hb1 : Below w.heap.size w w1 := (Below.refl _ w).grown hgrow1 (Nat.le_refl _) (fun k hk => by cases hk)
  have HO1 := Lib.hid (And.intro hown1 hb1)
  clear hown1 hb1 hgrow1 hm hi hz0 hz1 hz2
  go_loopw [3, 4] (fun t i wr => ∃ (j : Nat) (A' : Option Addr) (c' : Nat), j ≤ n ∧ i = .int .i64 (j : Int) ∧ t = .slice A' j c' ∧ wr.ownsRow w.heap.size 25 32 (.slice A' j c') j (bvs (ys.take (32 * j))) ∧ Below w.heap.size w wr) (fun _ i _ => n - (intOf i).toNat)
  case atStart => exact ⟨0, _, n + 1, Nat.zero_le _, rfl, rfl, HO1.out.1, HO1.out.2⟩
  case round =>
    clear HO1
    obtain ⟨j, A', c', hj, rfl, rfl, how, hbw⟩ := hrel
    have HO := Lib.hid (And.intro how hbw)
    clear how hbw
    by_cases hlt : j < n
    · obtain ⟨ad, rfl, hlq, hat⟩ := (HI.out.below HO.out.2).at_ hlt
      obtain ⟨X, hX⟩ : ∃ X, nth ys j = X := ⟨_, rfl⟩
      rw [hX] at hlq hat
      have HX := Lib.hid hX
      have HAt := Lib.hid hat
      have hi : (j : Int) < (n : Int) := by omega
      have OW := Lib.hid (own_on HO.out.1 (below_alloc wr (.cells (bvs X).toArray 25)))
      have BW := Lib.hid (HO.out.2.alloc HO.out.2.size (.cells (bvs X).toArray 25))
      clear hX hat
      go_wp2_with (first
        | refine wpList_load_sum rfl (.tmp 18) rfl (ad.add (j * 32)) rfl X hlq HAt.out ?_
        | (refine wpList_step fun K hK => ?_; rw [if_pos (by rfl)]; refine wp_sums (K := K) _ [X] 1 rfl rfl (by simp <;> rfl) (by intro x hx; simp at hx; rw [hx]; exact hlq) (by omega) (by omega) ?_; rw [one_flat]; refine hK _ _ ?_; clear hK K)
        | (refine wpList_step fun K hK => ?_; refine step_sapp (K := K) (by rfl) _ _ (by rfl) w.heap.size A' j c' (ys.take (32 * j)) (by rfl) OW.out (some ⟨wr.heap.size, 0, none⟩) 1 1 X (by rfl) (new_one wr X hlq) (fun e => by cases e) (by omega) BW.out.size ?_; intro A3 c3 W3 ow3 nx3; have HN := Lib.hid (And.intro ow3 (nx3.below OW.out BW.out (Nat.le_refl _) BW.out.size)); clear ow3 nx3; refine hK _ _ ?_; clear hK K))
      go_roundw
      case rel =>
        refine ⟨j + 1, A3, c3, by omega, by go_num, rfl, ?_, HN.out.2⟩
        rw [take_nth, HX.out]
        exact HN.out.1
      case measure => simp [intOf]; omega
    · obtain rfl : j = n := by omega
      have OW := Lib.hid (own_on HO.out.1 (below_alloc wr (.cells (bvs markS).toArray 25)))
      have BW := Lib.hid (HO.out.2.alloc HO.out.2.size (.cells (bvs markS).toArray 25))
      have hall : ys.take (32 * j) = ys := List.take_of_length_le (by rw [HI.out.len]; omega)
      rw [hall] at OW
      have HL := Lib.hid HI.out.len
      clear hall
      go_wp2_with (first
        | (refine wpList_step fun K hK => ?_; rw [if_pos (by rfl)]; refine wp_sums (K := K) _ [markS] 1 rfl rfl (by simp <;> rfl) (by intro x hx; simp at hx; rw [hx]; exact hml) (by omega) (by omega) ?_; rw [one_flat]; refine hK _ _ ?_; clear hK K)
        | (refine wpList_step fun K hK => ?_; refine step_sapp (K := K) (by rfl) _ _ (by rfl) w.heap.size A' j c' ys (by rfl) OW.out (some ⟨wr.heap.size, 0, none⟩) 1 1 markS (by rfl) (new_one wr markS hml) (fun e => by cases e) (by omega) BW.out.size ?_; intro A3 c3 W3 ow3 nx3; obtain ⟨ad3, hA3⟩ := own_some ow3 (by omega); subst hA3; have hsl := run_take_cap (ad := ad3) (n := j + 1) (c := c3) (k := j) (by have := own_cap ow3; omega); have HN := Lib.hid (And.intro ow3 (nx3.below OW.out BW.out (Nat.le_refl _) BW.out.size)); clear ow3 nx3; refine hK _ _ ?_; clear hK K))
      go_ret
      exact ⟨ad3, c3, rfl, ⟨InS.of_own HN.out.1, HL.out, own_cap HN.out.1⟩, HN.out.2, own_init (HL.out) HN.out.1⟩

theorem twinSums_any (A : Option Addr) (n c : Nat) (ys : List Nat) (w : World) (hin : InS w A n ys) (hn : n ≤ 1000000) :
    Calls Tryz.prog 4 #[.slice A n c] w fun e w' => ∃ ad c', e = .returned (.slice (some ad) n c') ∧ TwinS w' ad n c' ys ∧ Below w.heap.size w w' :=
  (twinSums_own A n c ys w hin hn).mono fun _ _ ⟨ad, c', he, ht, hb, _⟩ => ⟨ad, c', he, ht, hb⟩

set_option maxRecDepth 100000 in
set_option maxHeartbeats 4000000 in
theorem leftSums_yes (A : Option Addr) (ad1 : Addr) (n c1 c : Nat) (ys : List Nat) (w : World) (ht : TwinS w ad1 n c1 ys) (hin2 : InS w A n ys) (hn : n ≤ 1000000) :
    Calls Tryz.prog 10 #[.slice (some ad1) n c1, .slice A n c] w fun e w' => e = .returned (.bool true) ∧ Below w.heap.size w w' := by
  have dn : ((n : Int) != (n : Int)) = false := by simp
  have hcap := ht.cap
  have d2 : decide ((c1 : Int) ≤ (n : Int)) = false := by simp; omega
  have d3 : decide (c1 ≤ n) = false := by simp; omega
  have HT := Lib.hid ht
  have HI := Lib.hid hin2
  have hml := markS_length
  have hsl := run_take_cap (ad := ad1) (n := n) (c := c1) (k := n + 1) hcap
  have ec : ((n + 1 : Nat) : Int) = (n : Int) + 1 := by omega
  rw [ec] at hsl
  clear ht hin2 ec
  go_enter Tryz.func10, Tryz.ntmps10
  go_wp2
  go_loopw [5] (fun i wr => ∃ j : Nat, j ≤ n ∧ i = .int .i64 (j : Int) ∧ ∃ q, wr = w.drewN q) (fun i _ => n - (intOf i).toNat)
  case atStart => exact ⟨0, Nat.zero_le _, rfl, 0, rfl⟩
  case round =>
    obtain ⟨j, hj, rfl, q, rfl⟩ := hrel
    by_cases hlt : j < n
    · obtain ⟨ad, e1, hl, hat⟩ := HT.out.in_.at_ hlt
      cases e1
      obtain ⟨ad2, rfl, _, hat2⟩ := HI.out.at_ hlt
      have HAt := Lib.hid (And.intro hat hat2)
      clear hat hat2
      have i1 : (j : Int) < (n : Int) := by omega
      go_wp2
      refine wp_region_quiet_lit (by kernel_rfl) (by kernel_rfl) ?_
      iterate 3 quiet_step (fail)
      refine wpQuiet_step (fun K hK => ?_)
      refine quiet_load_sum rfl (.tmp 27) rfl (ad1.add (j * 32)) rfl (nth ys j) hl (fun W hW => by obtain ⟨m, rfl⟩ := hW; exact HAt.out.1) ?_
      go_simp
      refine hK _ ?_
      clear hK K
      iterate 3 quiet_step (fail)
      refine wpQuiet_step (fun K hK => ?_)
      refine quiet_load_sum rfl (.tmp 31) rfl (ad2.add (j * 32)) rfl (nth ys j) hl (fun W hW => by obtain ⟨m, rfl⟩ := hW; exact HAt.out.2) ?_
      go_simp
      refine hK _ ?_
      clear hK K
      have hne := run_neq_sum (nth ys j) (nth ys j) hl hl
      simp only [decide_true, Bool.not_true] at hne
      have hgd := fun x y => run_guard_neq x y (nth ys j) (nth ys j)
      quiet_step (fail)
      refine wpQuiet_nil ?_
      intro _ hw'
      obtain ⟨nq, hw''⟩ := hw'
      subst hw''
      rw [World.drewN_drewN]
      clear hne hgd
      go_wp2
      go_roundw
      case rel =>
        exact ⟨j + 1, by omega, by go_num, q + nq, rfl⟩
      case measure => simp [intOf]; omega
    · obtain rfl : j = n := by omega
      have HL : Hid (At (w.drewN q) (ad1.add (j * 32)) markS) := Lib.hid HT.out.last
      have q1 := mark_eql
      have q2 := mark_guard
      have b2 : Below w.heap.size w ((w.drewN q).alloc (.cells (bvs markS).toArray 25)) := by
        have b0 : Below w.heap.size w (w.drewN q) := ⟨rfl, rfl, rfl, Nat.le_refl _, fun _ _ => rfl⟩
        exact b0.alloc (Nat.le_refl _) _
      have f2 := BArr.new (w.drewN q) 25 markS
      obtain ⟨w2, hw2⟩ : ∃ w2, w2 = (w.drewN q).alloc (.cells (bvs markS).toArray 25) := ⟨_, rfl⟩
      rw [← hw2] at b2 f2
      have H2 := Lib.hid (And.intro f2.at_ (And.intro b2 hw2))
      clear b2 f2 hw2
      go_upto_region 9 with (first | with_reducible refine wpList_load_sum rfl (.tmp 41) rfl (ad1.add (j * 32)) rfl markS hml HL.out ?_ | ((with_reducible refine wpList_store_new (w.drewN q) _ ?_ rfl (.tmp 6) (.tmp 42) rfl rfl markS hml rfl ?_); · simp))
      rw [← H2.out.2.2]
      go_wp2_with (first | refine wpList_load_sum rfl (.tmp 6) rfl ⟨(w.drewN q).heap.size, 0, none⟩ rfl markS hml H2.out.1 ?_)
      go_ret
      exact ⟨rfl, H2.out.2.1⟩

end Go.Proofs.YtilgikhdamkeoaaGreatDoor

/-
  SameSums.
-/
namespace Go.Proofs.YtilgikhdamkeoaaGreatDoor
open Go.RowKit

set_option maxRecDepth 100000 in
set_option maxHeartbeats 1000000 in
theorem sameSums_yes (A A2 : Option Addr) (n c c2 : Nat) (ys : List Nat) (w : World) (hin : InS w A n ys) (hin2 : InS w A2 n ys) (hn : n ≤ 200000000000000) :
    Calls Tryz.prog 7 #[.slice A n c, .slice A2 n c2] w fun e w' => e = .returned (.bool true) ∧ ∃ q, w' = w.drewN q := by
  have dn : ((n : Int) != (n : Int)) = false := by simp
  go_enter Tryz.func7, Tryz.ntmps7
  go_wp2
  go_loopw [5] (fun i wr => ∃ j : Nat, j ≤ n ∧ i = .int .i64 (j : Int) ∧ ∃ q, wr = w.drewN q) (fun i _ => n - (intOf i).toNat)
  case atStart => exact ⟨0, Nat.zero_le _, rfl, 0, rfl⟩
  case round =>
    obtain ⟨j, hj, rfl, q, rfl⟩ := hrel
    by_cases hlt : j < n
    · obtain ⟨ad, rfl, hl, hat⟩ := hin.at_ hlt
      obtain ⟨ad2, rfl, _, hat2⟩ := hin2.at_ hlt
      have i1 : (j : Int) < (n : Int) := by omega
      go_wp2
      refine wp_region_quiet_lit (by kernel_rfl) (by kernel_rfl) ?_
      iterate 3 quiet_step (fail)
      refine wpQuiet_step (fun K hK => ?_)
      refine quiet_load_sum rfl (.tmp 19) rfl (ad.add (j * 32)) rfl (nth ys j) hl (fun W hW => by obtain ⟨m, rfl⟩ := hW; exact hat) ?_
      go_simp
      refine hK _ ?_
      clear hK K
      iterate 3 quiet_step (fail)
      refine wpQuiet_step (fun K hK => ?_)
      refine quiet_load_sum rfl (.tmp 23) rfl (ad2.add (j * 32)) rfl (nth ys j) hl (fun W hW => by obtain ⟨m, rfl⟩ := hW; exact hat2) ?_
      go_simp
      refine hK _ ?_
      clear hK K
      have hne := run_neq_sum (nth ys j) (nth ys j) hl hl
      simp only [decide_true, Bool.not_true] at hne
      have hgd := fun x y => run_guard_neq x y (nth ys j) (nth ys j)
      quiet_step (fail)
      refine wpQuiet_nil ?_
      rintro _ ⟨nq, rfl⟩
      rw [World.drewN_drewN]
      clear hne hgd
      go_wp2
      go_roundw
      case rel => exact ⟨j + 1, by omega, by go_num, q + nq, rfl⟩
      case measure => simp [intOf]; omega
    · go_wp2
      go_ret
      exact ⟨rfl, q, rfl⟩

end Go.Proofs.YtilgikhdamkeoaaGreatDoor

/-
  almonerlaw11.LinksOf.
-/
namespace Go.Proofs.YtilgikhdamkeoaaGreatDoor
open Go.RowKit

section
variable {w : World} {leaf root ys zs : List Nat} {from_ size n c m d : Nat} {A B : Option Addr} {z : Int} {EA : Addr}

set_option maxRecDepth 100000 in
set_option maxHeartbeats 4000000 in
theorem of_else (hl : leaf.length = 32) (hr : root.length = 32) (h : 100 < n ∨ 200 < m) :
    Calls Tryz.prog 3 #[.slice A n c, .int .i64 z, .agg (saidK from_ size leaf root B m d).toArray] w fun e w' => e = .returned (.bool true) ∧ Below w.heap.size w w' := by
  obtain ⟨w1, hw1⟩ : ∃ w1, w1 = w.alloc (.cells (saidK from_ size leaf root B m d).toArray 27) := ⟨_, rfl⟩
  have s1 : SaidKAt w1 w.heap.size from_ size leaf root B m d := by rw [hw1]; exact saidK_new w hl hr
  have b1 : Below w.heap.size w w1 := by rw [hw1]; exact below_alloc _ _
  obtain ⟨S, hS⟩ : ∃ S, (saidK from_ size leaf root B m d).toArray = S := ⟨_, rfl⟩
  rw [hS] at hw1 ⊢
  clear hS
  have c4 := s1.link
  have HW := Lib.hid hw1
  have HB := Lib.hid b1
  clear hw1 s1 b1 hl hr
  by_cases h1 : 100 < n
  · have hi : (100 : Int) < (n : Int) := by omega
    go_enter Tryz.func3, Tryz.ntmps3
    go_upto_region 1 with fail
    rw [← HW.out]
    go_wp2_with fail
    go_ret
    exact ⟨rfl, HB.out⟩
  · have hi : ¬ (100 : Int) < (n : Int) := by omega
    have hj : (200 : Int) < (m : Int) := by omega
    go_enter Tryz.func3, Tryz.ntmps3
    go_upto_region 1 with fail
    rw [← HW.out]
    go_wp2_with fail
    go_ret
    exact ⟨rfl, HB.out⟩

set_option maxRecDepth 100000 in
set_option maxHeartbeats 8000000 in
theorem of_main (hk : Knows w) (hs : Starts w) (hmi : Miss w EA) (cm : CameS w A n c ys) (cz : CameS w B m d zs) (hl : leaf.length = 32) (hb : ∀ x ∈ leaf, x < 256) (h1 : from_ < 18446744073709551616) (h2 : size < 18446744073709551616) (hr : root.length = 32) (hn : n ≤ 100) (hm : m ≤ 200)
    (dd : Nat) (E : Int) (P : List Nat) (hdd : dd ≤ 100) (hE : (E != E) = false)
    (co : ∀ (W : World) (ad : Addr) (c' : Nat), Below w.heap.size w W → InS W (some ad) n ys → n ≤ c' → Calls Tryz.prog 5 #[.slice (some ad) n c', .int .i64 z] W fun e w' => ∃ A' c', e = .returned (.tuple #[.slice A' dd c', .int .i64 E]) ∧ w'.ownsRow W.heap.size 25 32 (.slice A' dd c') dd (bvs P) ∧ Below W.heap.size W w')
    (cr : ∀ W : World, Below w.heap.size w W → Calls Tryz.prog 6 #[.slice A n c, .int .i64 z] W fun e w' => ∃ A' c', e = .returned (.tuple #[.slice A' dd c', .int .i64 E]) ∧ w'.ownsRow W.heap.size 25 32 (.slice A' dd c') dd (bvs P) ∧ Below W.heap.size W w') :
    Calls Tryz.prog 3 #[.slice A n c, .int .i64 z, .agg (saidK from_ size leaf root B m d).toArray] w fun e w' => e = .returned (.bool true) ∧ Below w.heap.size w w' := by
  obtain ⟨w1, hw1⟩ : ∃ w1, w1 = w.alloc (.cells (saidK from_ size leaf root B m d).toArray 27) := ⟨_, rfl⟩
  have s1 : SaidKAt w1 w.heap.size from_ size leaf root B m d := by rw [hw1]; exact saidK_new w hl hr
  have b1 : Below w.heap.size w w1 := by rw [hw1]; exact below_alloc _ _
  obtain ⟨S, hS⟩ : ∃ S, (saidK from_ size leaf root B m d).toArray = S := ⟨_, rfl⟩
  rw [hS] at hw1 ⊢
  clear hS
  have HW := Lib.hid hw1
  have H1 := Lib.hid (And.intro b1 s1)
  have CO := Lib.hid co
  have CR := Lib.hid cr
  have HE := Lib.hid hE
  have c4 := s1.link
  have HF := Lib.hid (And.intro cm (And.intro cz (And.intro hl (And.intro hb (And.intro hr (And.intro hn (And.intro hm (And.intro hdd (And.intro h1 h2)))))))))
  have hi : ¬ (100 : Int) < (n : Int) := by omega
  have hj : ¬ (200 : Int) < (m : Int) := by omega
  have CT := Lib.hid (twinSums_own A n c ys w1 (cm.in_.below b1) (by omega))
  clear hw1 s1 b1 co cr hE cm cz hb h1 h2 hn hm hdd
  go_enter Tryz.func3, Tryz.ntmps3
  go_upto_region 1 with fail
  rw [← HW.out]
  go_wp2_with fail
  refine CT.out.mono ?_
  rintro e w2 ⟨ad1, c1, rfl, tw1, hb2, ow1⟩
  have B2 := Lib.hid (below_on H1.out.1 (Nat.le_refl _) hb2)
  have T1 := Lib.hid (And.intro tw1 ow1)
  have S2 := Lib.hid (H1.out.2.below hb2)
  have G1 := Lib.hid (And.intro hb2.size H1.out.1.size)
  have c4 := S2.out.link
  have CU := Lib.hid (twinSums_own B m d zs w2 (HF.out.2.1.in_.below B2.out) (by have := HF.out; omega))
  clear tw1 ow1 hb2 CT
  go_wp2_with fail
  refine CU.out.mono ?_
  rintro e w3 ⟨ad2, c2, rfl, tw2, hb3, ow2⟩
  have B3 := Lib.hid (below_on B2.out (Nat.le_refl _) hb3)
  have T2 := Lib.hid (And.intro (And.intro (T1.out.1.below hb3) (own_on T1.out.2 hb3)) (And.intro tw2 ow2))
  have S3 := Lib.hid (S2.out.below hb3)
  have G2 := Lib.hid (And.intro G1.out.1 (And.intro G1.out.2 hb3.size))
  have F1 := Lib.hid T1.out.2
  clear tw2 ow2 hb3 CU S2 T1 G1 c4
  go_wp2_with fail
  refine (CO.out w3 ad1 c1 B3.out T2.out.1.1.in_ (by have := T2.out.1.1.cap; omega)).mono ?_
  rintro e w4 ⟨A4, c4, rfl, ow4, hb4⟩
  have B4 := Lib.hid (below_on B3.out (Nat.le_refl _) hb4)
  have T3 := Lib.hid (And.intro (And.intro (T2.out.1.1.below hb4) (own_on T2.out.1.2 hb4)) (And.intro (And.intro (T2.out.2.1.below hb4) (own_on T2.out.2.2 hb4)) ow4))
  have S4 := Lib.hid (S3.out.below hb4)
  have F2 := Lib.hid T2.out.2.2
  have G3 := Lib.hid (And.intro G2.out hb4.size)
  clear ow4 hb4 S3 T2 G2
  go_wp2_with fail
  refine (CR.out w4 B4.out).mono ?_
  rintro e w5 ⟨A5, c5, rfl, ow5, hb5⟩
  have B5 := Lib.hid (below_on B4.out (Nat.le_refl _) hb5)
  have T5 := Lib.hid (And.intro (And.intro (T3.out.1.1.below hb5) (own_on T3.out.1.2 hb5)) (And.intro (And.intro (T3.out.2.1.1.below hb5) (own_on T3.out.2.1.2 hb5)) (And.intro (own_on T3.out.2.2 hb5) (InS.of_own ow5))))
  have S5 := Lib.hid (S4.out.below hb5)
  clear ow5 hb5 S4 T3 CO CR
  obtain ⟨q, hq⟩ : ∃ q, begins zs leaf root m from_ size = q := ⟨_, rfl⟩
  have C1 := Lib.hid (fun (W : World) (hW : Below w5.heap.size w5 W) => later (v' := .bool q) hW (by rw [hq]) (kcheck_any (A := some ad2) (c := c2) (from_ := from_) (size := size) (T5.out.2.1.1.in_.below hW) HF.out.2.1.lt (by have := T5.out.2.1.1.cap; omega) (by have := HF.out; omega) HF.out.2.2.1 HF.out.2.2.2.1 HF.out.2.2.2.2.1 HF.out.2.2.2.2.2.2.2.2.2 (hk.below (below_on B5.out (Nat.le_refl _) hW)) (hs.below (below_on B5.out (Nat.le_refl _) hW)) (hmi.below (below_on B5.out (Nat.le_refl _) hW))))
  have C2 := Lib.hid (fun (W : World) (hW : Below w5.heap.size w5 W) => later (v' := .bool q) hW (by rw [hq]) (refKCheck_any (A := B) (c := d) (from_ := from_) (size := size) (HF.out.2.1.in_.below (below_on B5.out (Nat.le_refl _) hW)) HF.out.2.1.lt HF.out.2.1.cap HF.out.2.2.1 HF.out.2.2.2.1 HF.out.2.2.2.2.1 HF.out.2.2.2.2.2.2.2.2.2))
  have C3 := Lib.hid (fun (W : World) (hW : Below w5.heap.size w5 W) => later (v' := .bool true) hW rfl (leftSums_yes A ad1 n c1 c ys W (T5.out.1.1.below hW) (HF.out.1.in_.below (below_on B5.out (Nat.le_refl _) hW)) (by have := HF.out; omega)))
  have C4 := Lib.hid (fun (W : World) (hW : Below w5.heap.size w5 W) => later (v' := .bool true) hW rfl (leftSums_yes B ad2 m c2 d zs W (T5.out.2.1.1.below hW) (HF.out.2.1.in_.below (below_on B5.out (Nat.le_refl _) hW)) (by have := HF.out; omega)))
  have hl := HF.out.2.2.1
  have hr := HF.out.2.2.2.2.1
  have hE := HE.out
  have KS := Lib.hid (fun (W : World) (hW : Below w5.heap.size w5 W) => S5.out.below hW)
  obtain ⟨b, hb0⟩ : ∃ b, w.heap.size = b := ⟨_, rfl⟩
  have HB0 := Lib.hid hb0
  have KS2 : Hid (∀ W : World, Below w5.heap.size w5 W → SaidKAt W b from_ size leaf root B m d) := by rw [← hb0]; exact KS
  clear hq KS hb0 hk hs hmi
  go_upto_region 7 with fail
  try rw [HB0.out]
  refine wp_region_held_drew (S := fun W => Below w5.heap.size w5 W) (by kernel_rfl) ((Below.refl _ _).drew) (fun hT0 => ?_)
  change wpAnyH _ _ _ _ _ _ _ _ w5.drew
  refine' wpAnyH_take (i := 0) (oi := _) (v := _) ?hip0 (by kernel_rfl) ?hfp0 ?hrp0 ?hQp0 ?hyp0 hT0 ?restp0
  case hip0 => (simp only [List.getElem?_toArray, List.getElem?_cons_zero]; rfl)
  case hfp0 => kernel_rfl
  case hrp0 => kernel_rfl
  case hQp0 => exact fun _ _ _ h => h
  case hyp0 => refine Or.inl ⟨by rfl, ?_⟩; intro W hSw; go_simp; try with_reducible rfl
  try simp only [Act.put, List.setIfInBounds_toArray, List.set_cons_zero, List.set_cons_succ]
  refine' wpAnyH_take (i := 1) (oi := _) (v := _) ?hip1 (by kernel_rfl) ?hfp1 ?hrp1 ?hQp1 ?hyp1 hT0 ?restp1
  case hip1 => (simp only [List.getElem?_toArray, List.getElem?_cons_zero, List.getElem?_cons_succ]; rfl)
  case hfp1 => kernel_rfl
  case hrp1 => kernel_rfl
  case hQp1 => exact fun _ _ _ h => h
  case hyp1 => refine Or.inl ⟨by rfl, ?_⟩; intro W hSw; go_simp; try with_reducible rfl
  try simp only [Act.put, List.setIfInBounds_toArray, List.set_cons_zero, List.set_cons_succ]
  refine' wpAnyH_take (i := 2) (oi := _) (v := _) ?hip2 (by kernel_rfl) ?hfp2 ?hrp2 ?hQp2 ?hyp2 hT0 ?restp2
  case hip2 => (simp only [List.getElem?_toArray, List.getElem?_cons_zero, List.getElem?_cons_succ]; rfl)
  case hfp2 => kernel_rfl
  case hrp2 => kernel_rfl
  case hQp2 => exact fun _ _ _ h => h
  case hyp2 => refine Or.inl ⟨by rfl, ?_⟩; intro W hSw; go_simp; try with_reducible rfl
  try simp only [Act.put, List.setIfInBounds_toArray, List.set_cons_zero, List.set_cons_succ]
  refine' wpAnyH_take (i := 3) (oi := _) (v := _) ?hip3 (by kernel_rfl) ?hfp3 ?hrp3 ?hQp3 ?hyp3 hT0 ?restp3
  case hip3 => (simp only [List.getElem?_toArray, List.getElem?_cons_zero, List.getElem?_cons_succ]; rfl)
  case hfp3 => kernel_rfl
  case hrp3 => kernel_rfl
  case hQp3 => exact fun _ _ _ h => h
  case hyp3 => refine Or.inl ⟨by rfl, ?_⟩; intro W hSw; go_simp; try with_reducible rfl
  try simp only [Act.put, List.setIfInBounds_toArray, List.set_cons_zero, List.set_cons_succ]
  refine' wpAnyH_take (i := 4) (oi := _) (v := _) ?hip4 (by kernel_rfl) ?hfp4 ?hrp4 ?hQp4 ?hyp4 hT0 ?restp4
  case hip4 => (simp only [List.getElem?_toArray, List.getElem?_cons_zero, List.getElem?_cons_succ]; rfl)
  case hfp4 => kernel_rfl
  case hrp4 => kernel_rfl
  case hQp4 => exact fun _ _ _ h => h
  case hyp4 => refine Or.inl ⟨by rfl, ?_⟩; intro W hSw; go_simp; try with_reducible rfl
  try simp only [Act.put, List.setIfInBounds_toArray, List.set_cons_zero, List.set_cons_succ]
  refine' wpAnyH_take (i := 5) (oi := _) (v := _) ?hip5 (by kernel_rfl) ?hfp5 ?hrp5 ?hQp5 ?hyp5 hT0 ?restp5
  case hip5 => (simp only [List.getElem?_toArray, List.getElem?_cons_zero, List.getElem?_cons_succ]; rfl)
  case hfp5 => kernel_rfl
  case hrp5 => kernel_rfl
  case hQp5 => exact fun _ _ _ h => h
  case hyp5 => refine Or.inl ⟨by rfl, ?_⟩; intro W hSw; go_simp; try with_reducible rfl
  try simp only [Act.put, List.setIfInBounds_toArray, List.set_cons_zero, List.set_cons_succ]
  have CS6 := Lib.hid (sameSums_yes A4 A5 dd c4 c5 P w5.drew (((InS.of_own T5.out.2.2.1)).below hT0) (T5.out.2.2.2.below hT0) (by have := HF.out; omega))
  refine wpAnyH_ready (rs := [6]) (by kernel_rfl) (by simp) ?_
  refine' AllReadyH.cons (o := _) ?hip6 (fun K hK => ?_) AllReadyH.nil
  case hip6 => (simp only [List.getElem?_toArray, List.getElem?_cons_zero, List.getElem?_cons_succ]; rfl)
  go_simp
  go_at_call 7
  refine CS6.out.mono ?_
  rintro e WS6 ⟨rfl, qS, hqS⟩
  have hBp1 : Below w5.heap.size w5 WS6 := by rw [hqS]; exact ⟨hT0.os, hT0.tape, hT0.output, hT0.size, hT0.block⟩
  clear hqS
  refine hK.out _ _ hBp1 (fun _ => ?_)
  clear hK K CS6
  try simp only [Act.put, List.setIfInBounds_toArray, List.set_cons_zero, List.set_cons_succ]
  refine' wpAnyH_take (i := 7) (oi := _) (v := _) ?hip7 (by kernel_rfl) ?hfp7 ?hrp7 ?hQp7 ?hyp7 hBp1 ?restp7
  case hip7 => (simp only [List.getElem?_toArray, List.getElem?_cons_zero, List.getElem?_cons_succ]; rfl)
  case hfp7 => kernel_rfl
  case hrp7 => kernel_rfl
  case hQp7 => exact fun _ _ _ h => h
  case hyp7 => refine Or.inl ⟨by rfl, ?_⟩; intro W hSw; go_simp; try with_reducible rfl
  try simp only [Act.put, List.setIfInBounds_toArray, List.set_cons_zero, List.set_cons_succ]
  refine' wpAnyH_take (i := 8) (oi := _) (v := _) ?hip8 (by kernel_rfl) ?hfp8 ?hrp8 ?hQp8 ?hyp8 hBp1 ?restp8
  case hip8 => (simp only [List.getElem?_toArray, List.getElem?_cons_zero, List.getElem?_cons_succ]; rfl)
  case hfp8 => kernel_rfl
  case hrp8 => kernel_rfl
  case hQp8 => exact fun _ _ _ h => h
  case hyp8 => refine Or.inl ⟨by rfl, ?_⟩; intro W hSw; go_simp; try with_reducible rfl
  try simp only [Act.put, List.setIfInBounds_toArray, List.set_cons_zero, List.set_cons_succ]
  refine' wpAnyH_take (i := 9) (oi := _) (v := _) ?hip9 (by kernel_rfl) ?hfp9 ?hrp9 ?hQp9 ?hyp9 hBp1 ?restp9
  case hip9 => (simp only [List.getElem?_toArray, List.getElem?_cons_zero, List.getElem?_cons_succ]; rfl)
  case hfp9 => kernel_rfl
  case hrp9 => kernel_rfl
  case hQp9 => exact fun _ _ _ h => h
  case hyp9 => refine Or.inl ⟨by rfl, ?_⟩; intro W hSw; go_simp; try with_reducible rfl
  try simp only [Act.put, List.setIfInBounds_toArray, List.set_cons_zero, List.set_cons_succ]
  refine' wpAnyH_take (i := 10) (oi := _) (v := _) ?hip10 (by kernel_rfl) ?hfp10 ?hrp10 ?hQp10 ?hyp10 hBp1 ?restp10
  case hip10 => (simp only [List.getElem?_toArray, List.getElem?_cons_zero, List.getElem?_cons_succ]; rfl)
  case hfp10 => kernel_rfl
  case hrp10 => kernel_rfl
  case hQp10 => exact fun _ _ _ h => h
  case hyp10 => refine Or.inl ⟨by rfl, ?_⟩; intro W hSw; go_simp; try with_reducible rfl
  try simp only [Act.put, List.setIfInBounds_toArray, List.set_cons_zero, List.set_cons_succ]
  refine' wpAnyH_take (i := 11) (oi := _) (v := _) ?hip11 (by kernel_rfl) ?hfp11 ?hrp11 ?hQp11 ?hyp11 hBp1 ?restp11
  case hip11 => (simp only [List.getElem?_toArray, List.getElem?_cons_zero, List.getElem?_cons_succ]; rfl)
  case hfp11 => kernel_rfl
  case hrp11 => kernel_rfl
  case hQp11 => exact fun _ _ _ h => h
  case hyp11 => refine Or.inl ⟨by rfl, ?_⟩; intro W hSw; have hcc := (KS2.out W hSw).from_; go_simp; try with_reducible rfl
  try simp only [Act.put, List.setIfInBounds_toArray, List.set_cons_zero, List.set_cons_succ]
  refine' wpAnyH_take (i := 12) (oi := _) (v := _) ?hip12 (by kernel_rfl) ?hfp12 ?hrp12 ?hQp12 ?hyp12 hBp1 ?restp12
  case hip12 => (simp only [List.getElem?_toArray, List.getElem?_cons_zero, List.getElem?_cons_succ]; rfl)
  case hfp12 => kernel_rfl
  case hrp12 => kernel_rfl
  case hQp12 => exact fun _ _ _ h => h
  case hyp12 => refine Or.inl ⟨by rfl, ?_⟩; intro W hSw; go_simp; try with_reducible rfl
  try simp only [Act.put, List.setIfInBounds_toArray, List.set_cons_zero, List.set_cons_succ]
  refine' wpAnyH_take (i := 13) (oi := _) (v := _) ?hip13 (by kernel_rfl) ?hfp13 ?hrp13 ?hQp13 ?hyp13 hBp1 ?restp13
  case hip13 => (simp only [List.getElem?_toArray, List.getElem?_cons_zero, List.getElem?_cons_succ]; rfl)
  case hfp13 => kernel_rfl
  case hrp13 => kernel_rfl
  case hQp13 => exact fun _ _ _ h => h
  case hyp13 => refine Or.inl ⟨by rfl, ?_⟩; intro W hSw; have hcc := (KS2.out W hSw).size; go_simp; try with_reducible rfl
  try simp only [Act.put, List.setIfInBounds_toArray, List.set_cons_zero, List.set_cons_succ]
  refine' wpAnyH_take (i := 14) (oi := _) (v := _) ?hip14 (by kernel_rfl) ?hfp14 ?hrp14 ?hQp14 ?hyp14 hBp1 ?restp14
  case hip14 => (simp only [List.getElem?_toArray, List.getElem?_cons_zero, List.getElem?_cons_succ]; rfl)
  case hfp14 => kernel_rfl
  case hrp14 => kernel_rfl
  case hQp14 => exact fun _ _ _ h => h
  case hyp14 => refine Or.inl ⟨by rfl, ?_⟩; intro W hSw; go_simp; try with_reducible rfl
  try simp only [Act.put, List.setIfInBounds_toArray, List.set_cons_zero, List.set_cons_succ]
  refine' wpAnyH_take (i := 15) (oi := _) (v := sv (leaf)) ?hip15 (by kernel_rfl) ?hfp15 ?hrp15 ?hQp15 ?hyp15 hBp1 ?restp15
  case hip15 => (simp only [List.getElem?_toArray, List.getElem?_cons_zero, List.getElem?_cons_succ]; rfl)
  case hfp15 => kernel_rfl
  case hrp15 => kernel_rfl
  case hQp15 => exact fun _ _ _ h => h
  case hyp15 => refine yields_sum ?_ (.tmp 54) rfl ⟨b, 2, none⟩ rfl leaf hl (fun W hSw => (KS2.out W hSw).old); rfl
  try simp only [Act.put, List.setIfInBounds_toArray, List.set_cons_zero, List.set_cons_succ]
  refine' wpAnyH_take (i := 16) (oi := _) (v := _) ?hip16 (by kernel_rfl) ?hfp16 ?hrp16 ?hQp16 ?hyp16 hBp1 ?restp16
  case hip16 => (simp only [List.getElem?_toArray, List.getElem?_cons_zero, List.getElem?_cons_succ]; rfl)
  case hfp16 => kernel_rfl
  case hrp16 => kernel_rfl
  case hQp16 => exact fun _ _ _ h => h
  case hyp16 => refine Or.inl ⟨by rfl, ?_⟩; intro W hSw; go_simp; try with_reducible rfl
  try simp only [Act.put, List.setIfInBounds_toArray, List.set_cons_zero, List.set_cons_succ]
  refine' wpAnyH_take (i := 17) (oi := _) (v := sv (root)) ?hip17 (by kernel_rfl) ?hfp17 ?hrp17 ?hQp17 ?hyp17 hBp1 ?restp17
  case hip17 => (simp only [List.getElem?_toArray, List.getElem?_cons_zero, List.getElem?_cons_succ]; rfl)
  case hfp17 => kernel_rfl
  case hrp17 => kernel_rfl
  case hQp17 => exact fun _ _ _ h => h
  case hyp17 => refine yields_sum ?_ (.tmp 56) rfl ⟨b, 34, none⟩ rfl root hr (fun W hSw => (KS2.out W hSw).new); rfl
  try simp only [Act.put, List.setIfInBounds_toArray, List.set_cons_zero, List.set_cons_succ]
  refine' wpAnyH_take (i := 18) (oi := _) (v := _) ?hip18 (by kernel_rfl) ?hfp18 ?hrp18 ?hQp18 ?hyp18 hBp1 ?restp18
  case hip18 => (simp only [List.getElem?_toArray, List.getElem?_cons_zero, List.getElem?_cons_succ]; rfl)
  case hfp18 => kernel_rfl
  case hrp18 => kernel_rfl
  case hQp18 => exact fun _ _ _ h => h
  case hyp18 => refine Or.inl ⟨by rfl, ?_⟩; intro W hSw; go_simp; try with_reducible rfl
  try simp only [Act.put, List.setIfInBounds_toArray, List.set_cons_zero, List.set_cons_succ]
  refine' wpAnyH_take (i := 20) (oi := _) (v := _) ?hip20 (by kernel_rfl) ?hfp20 ?hrp20 ?hQp20 ?hyp20 hBp1 ?restp20
  case hip20 => (simp only [List.getElem?_toArray, List.getElem?_cons_zero, List.getElem?_cons_succ]; rfl)
  case hfp20 => kernel_rfl
  case hrp20 => kernel_rfl
  case hQp20 => exact fun _ _ _ h => h
  case hyp20 => refine Or.inl ⟨by rfl, ?_⟩; intro W hSw; go_simp; try with_reducible rfl
  try simp only [Act.put, List.setIfInBounds_toArray, List.set_cons_zero, List.set_cons_succ]
  refine' wpAnyH_take (i := 21) (oi := _) (v := _) ?hip21 (by kernel_rfl) ?hfp21 ?hrp21 ?hQp21 ?hyp21 hBp1 ?restp21
  case hip21 => (simp only [List.getElem?_toArray, List.getElem?_cons_zero, List.getElem?_cons_succ]; rfl)
  case hfp21 => kernel_rfl
  case hrp21 => kernel_rfl
  case hQp21 => exact fun _ _ _ h => h
  case hyp21 => refine Or.inl ⟨by rfl, ?_⟩; intro W hSw; have hcc := (KS2.out W hSw).from_; go_simp; try with_reducible rfl
  try simp only [Act.put, List.setIfInBounds_toArray, List.set_cons_zero, List.set_cons_succ]
  refine' wpAnyH_take (i := 22) (oi := _) (v := _) ?hip22 (by kernel_rfl) ?hfp22 ?hrp22 ?hQp22 ?hyp22 hBp1 ?restp22
  case hip22 => (simp only [List.getElem?_toArray, List.getElem?_cons_zero, List.getElem?_cons_succ]; rfl)
  case hfp22 => kernel_rfl
  case hrp22 => kernel_rfl
  case hQp22 => exact fun _ _ _ h => h
  case hyp22 => refine Or.inl ⟨by rfl, ?_⟩; intro W hSw; go_simp; try with_reducible rfl
  try simp only [Act.put, List.setIfInBounds_toArray, List.set_cons_zero, List.set_cons_succ]
  refine' wpAnyH_take (i := 23) (oi := _) (v := _) ?hip23 (by kernel_rfl) ?hfp23 ?hrp23 ?hQp23 ?hyp23 hBp1 ?restp23
  case hip23 => (simp only [List.getElem?_toArray, List.getElem?_cons_zero, List.getElem?_cons_succ]; rfl)
  case hfp23 => kernel_rfl
  case hrp23 => kernel_rfl
  case hQp23 => exact fun _ _ _ h => h
  case hyp23 => refine Or.inl ⟨by rfl, ?_⟩; intro W hSw; have hcc := (KS2.out W hSw).size; go_simp; try with_reducible rfl
  try simp only [Act.put, List.setIfInBounds_toArray, List.set_cons_zero, List.set_cons_succ]
  refine' wpAnyH_take (i := 24) (oi := _) (v := _) ?hip24 (by kernel_rfl) ?hfp24 ?hrp24 ?hQp24 ?hyp24 hBp1 ?restp24
  case hip24 => (simp only [List.getElem?_toArray, List.getElem?_cons_zero, List.getElem?_cons_succ]; rfl)
  case hfp24 => kernel_rfl
  case hrp24 => kernel_rfl
  case hQp24 => exact fun _ _ _ h => h
  case hyp24 => refine Or.inl ⟨by rfl, ?_⟩; intro W hSw; go_simp; try with_reducible rfl
  try simp only [Act.put, List.setIfInBounds_toArray, List.set_cons_zero, List.set_cons_succ]
  refine' wpAnyH_take (i := 25) (oi := _) (v := sv (leaf)) ?hip25 (by kernel_rfl) ?hfp25 ?hrp25 ?hQp25 ?hyp25 hBp1 ?restp25
  case hip25 => (simp only [List.getElem?_toArray, List.getElem?_cons_zero, List.getElem?_cons_succ]; rfl)
  case hfp25 => kernel_rfl
  case hrp25 => kernel_rfl
  case hQp25 => exact fun _ _ _ h => h
  case hyp25 => refine yields_sum ?_ (.tmp 64) rfl ⟨b, 2, none⟩ rfl leaf hl (fun W hSw => (KS2.out W hSw).old); rfl
  try simp only [Act.put, List.setIfInBounds_toArray, List.set_cons_zero, List.set_cons_succ]
  refine' wpAnyH_take (i := 26) (oi := _) (v := _) ?hip26 (by kernel_rfl) ?hfp26 ?hrp26 ?hQp26 ?hyp26 hBp1 ?restp26
  case hip26 => (simp only [List.getElem?_toArray, List.getElem?_cons_zero, List.getElem?_cons_succ]; rfl)
  case hfp26 => kernel_rfl
  case hrp26 => kernel_rfl
  case hQp26 => exact fun _ _ _ h => h
  case hyp26 => refine Or.inl ⟨by rfl, ?_⟩; intro W hSw; go_simp; try with_reducible rfl
  try simp only [Act.put, List.setIfInBounds_toArray, List.set_cons_zero, List.set_cons_succ]
  refine' wpAnyH_take (i := 27) (oi := _) (v := sv (root)) ?hip27 (by kernel_rfl) ?hfp27 ?hrp27 ?hQp27 ?hyp27 hBp1 ?restp27
  case hip27 => (simp only [List.getElem?_toArray, List.getElem?_cons_zero, List.getElem?_cons_succ]; rfl)
  case hfp27 => kernel_rfl
  case hrp27 => kernel_rfl
  case hQp27 => exact fun _ _ _ h => h
  case hyp27 => refine yields_sum ?_ (.tmp 66) rfl ⟨b, 34, none⟩ rfl root hr (fun W hSw => (KS2.out W hSw).new); rfl
  try simp only [Act.put, List.setIfInBounds_toArray, List.set_cons_zero, List.set_cons_succ]
  refine' wpAnyH_take (i := 28) (oi := _) (v := _) ?hip28 (by kernel_rfl) ?hfp28 ?hrp28 ?hQp28 ?hyp28 hBp1 ?restp28
  case hip28 => (simp only [List.getElem?_toArray, List.getElem?_cons_zero, List.getElem?_cons_succ]; rfl)
  case hfp28 => kernel_rfl
  case hrp28 => kernel_rfl
  case hQp28 => exact fun _ _ _ h => h
  case hyp28 => refine Or.inl ⟨by rfl, ?_⟩; intro W hSw; go_simp; try with_reducible rfl
  try simp only [Act.put, List.setIfInBounds_toArray, List.set_cons_zero, List.set_cons_succ]
  refine' wpAnyH_take (i := 29) (oi := _) (v := _) ?hip29 (by kernel_rfl) ?hfp29 ?hrp29 ?hQp29 ?hyp29 hBp1 ?restp29
  case hip29 => (simp only [List.getElem?_toArray, List.getElem?_cons_zero, List.getElem?_cons_succ]; rfl)
  case hfp29 => kernel_rfl
  case hrp29 => kernel_rfl
  case hQp29 => exact fun _ _ _ h => h
  case hyp29 => refine Or.inl ⟨by rfl, ?_⟩; intro W hSw; have hcc := (KS2.out W hSw).link; go_simp; try with_reducible rfl
  try simp only [Act.put, List.setIfInBounds_toArray, List.set_cons_zero, List.set_cons_succ]
  refine wpAnyH_ready (rs := [19]) (by kernel_rfl) (by simp) ?_
  refine' AllReadyH.cons (o := _) ?hip19 (fun K hK => ?_) AllReadyH.nil
  case hip19 => (simp only [List.getElem?_toArray, List.getElem?_cons_zero, List.getElem?_cons_succ]; rfl)
  go_simp
  go_at_call 8
  refine (C1.out _ hBp1).mono ?_
  rintro e Wp3 ⟨rfl, hBp2⟩
  refine hK.out _ _ hBp2 (fun _ => ?_)
  clear hK K
  try simp only [Act.put, List.setIfInBounds_toArray, List.set_cons_zero, List.set_cons_succ]
  refine wpAnyH_ready (rs := [30]) (by kernel_rfl) (by simp) ?_
  refine' AllReadyH.cons (o := _) ?hip30 (fun K hK => ?_) AllReadyH.nil
  case hip30 => (simp only [List.getElem?_toArray, List.getElem?_cons_zero, List.getElem?_cons_succ]; rfl)
  go_simp
  go_at_call 9
  refine (C2.out _ hBp2).mono ?_
  rintro e Wp5 ⟨rfl, hBp4⟩
  refine hK.out _ _ hBp4 (fun _ => ?_)
  clear hK K
  try simp only [Act.put, List.setIfInBounds_toArray, List.set_cons_zero, List.set_cons_succ]
  refine' wpAnyH_take (i := 31) (oi := _) (v := _) ?hip31 (by kernel_rfl) ?hfp31 ?hrp31 ?hQp31 ?hyp31 hBp4 ?restp31
  case hip31 => (simp only [List.getElem?_toArray, List.getElem?_cons_zero, List.getElem?_cons_succ]; rfl)
  case hfp31 => kernel_rfl
  case hrp31 => kernel_rfl
  case hQp31 => exact fun _ _ _ h => h
  case hyp31 => refine Or.inl ⟨by rfl, ?_⟩; intro W hSw; go_simp; try with_reducible rfl
  try simp only [Act.put, List.setIfInBounds_toArray, List.set_cons_zero, List.set_cons_succ]
  refine' wpAnyH_take (i := 32) (oi := _) (v := _) ?hip32 (by kernel_rfl) ?hfp32 ?hrp32 ?hQp32 ?hyp32 hBp4 ?restp32
  case hip32 => (simp only [List.getElem?_toArray, List.getElem?_cons_zero, List.getElem?_cons_succ]; rfl)
  case hfp32 => kernel_rfl
  case hrp32 => kernel_rfl
  case hQp32 => exact fun _ _ _ h => h
  case hyp32 => refine Or.inl ⟨by rfl, ?_⟩; intro W hSw; go_simp; try with_reducible rfl
  try simp only [Act.put, List.setIfInBounds_toArray, List.set_cons_zero, List.set_cons_succ]
  refine' wpAnyH_take (i := 33) (oi := _) (v := _) ?hip33 (by kernel_rfl) ?hfp33 ?hrp33 ?hQp33 ?hyp33 hBp4 ?restp33
  case hip33 => (simp only [List.getElem?_toArray, List.getElem?_cons_zero, List.getElem?_cons_succ]; rfl)
  case hfp33 => kernel_rfl
  case hrp33 => kernel_rfl
  case hQp33 => exact fun _ _ _ h => h
  case hyp33 => refine Or.inl ⟨by rfl, ?_⟩; intro W hSw; go_simp; try with_reducible rfl
  try simp only [Act.put, List.setIfInBounds_toArray, List.set_cons_zero, List.set_cons_succ]
  refine' wpAnyH_take (i := 34) (oi := _) (v := _) ?hip34 (by kernel_rfl) ?hfp34 ?hrp34 ?hQp34 ?hyp34 hBp4 ?restp34
  case hip34 => (simp only [List.getElem?_toArray, List.getElem?_cons_zero, List.getElem?_cons_succ]; rfl)
  case hfp34 => kernel_rfl
  case hrp34 => kernel_rfl
  case hQp34 => exact fun _ _ _ h => h
  case hyp34 => refine Or.inl ⟨by rfl, ?_⟩; intro W hSw; go_simp; try with_reducible rfl
  try simp only [Act.put, List.setIfInBounds_toArray, List.set_cons_zero, List.set_cons_succ]
  refine' wpAnyH_take (i := 35) (oi := _) (v := _) ?hip35 (by kernel_rfl) ?hfp35 ?hrp35 ?hQp35 ?hyp35 hBp4 ?restp35
  case hip35 => (simp only [List.getElem?_toArray, List.getElem?_cons_zero, List.getElem?_cons_succ]; rfl)
  case hfp35 => kernel_rfl
  case hrp35 => kernel_rfl
  case hQp35 => exact fun _ _ _ h => h
  case hyp35 => refine Or.inl ⟨by rfl, ?_⟩; intro W hSw; go_simp; try with_reducible rfl
  try simp only [Act.put, List.setIfInBounds_toArray, List.set_cons_zero, List.set_cons_succ]
  refine wpAnyH_ready (rs := [36]) (by kernel_rfl) (by simp) ?_
  refine' AllReadyH.cons (o := _) ?hip36 (fun K hK => ?_) AllReadyH.nil
  case hip36 => (simp only [List.getElem?_toArray, List.getElem?_cons_zero, List.getElem?_cons_succ]; rfl)
  go_simp
  go_at_call 10
  refine (C3.out _ hBp4).mono ?_
  rintro e Wp7 ⟨rfl, hBp6⟩
  refine hK.out _ _ hBp6 (fun _ => ?_)
  clear hK K
  try simp only [Act.put, List.setIfInBounds_toArray, List.set_cons_zero, List.set_cons_succ]
  refine' wpAnyH_take (i := 37) (oi := _) (v := _) ?hip37 (by kernel_rfl) ?hfp37 ?hrp37 ?hQp37 ?hyp37 hBp6 ?restp37
  case hip37 => (simp only [List.getElem?_toArray, List.getElem?_cons_zero, List.getElem?_cons_succ]; rfl)
  case hfp37 => kernel_rfl
  case hrp37 => kernel_rfl
  case hQp37 => exact fun _ _ _ h => h
  case hyp37 => refine Or.inl ⟨by rfl, ?_⟩; intro W hSw; go_simp; try with_reducible rfl
  try simp only [Act.put, List.setIfInBounds_toArray, List.set_cons_zero, List.set_cons_succ]
  refine' wpAnyH_take (i := 38) (oi := _) (v := _) ?hip38 (by kernel_rfl) ?hfp38 ?hrp38 ?hQp38 ?hyp38 hBp6 ?restp38
  case hip38 => (simp only [List.getElem?_toArray, List.getElem?_cons_zero, List.getElem?_cons_succ]; rfl)
  case hfp38 => kernel_rfl
  case hrp38 => kernel_rfl
  case hQp38 => exact fun _ _ _ h => h
  case hyp38 => refine Or.inl ⟨by rfl, ?_⟩; intro W hSw; go_simp; try with_reducible rfl
  try simp only [Act.put, List.setIfInBounds_toArray, List.set_cons_zero, List.set_cons_succ]
  refine' wpAnyH_take (i := 39) (oi := _) (v := _) ?hip39 (by kernel_rfl) ?hfp39 ?hrp39 ?hQp39 ?hyp39 hBp6 ?restp39
  case hip39 => (simp only [List.getElem?_toArray, List.getElem?_cons_zero, List.getElem?_cons_succ]; rfl)
  case hfp39 => kernel_rfl
  case hrp39 => kernel_rfl
  case hQp39 => exact fun _ _ _ h => h
  case hyp39 => refine Or.inl ⟨by rfl, ?_⟩; intro W hSw; go_simp; try with_reducible rfl
  try simp only [Act.put, List.setIfInBounds_toArray, List.set_cons_zero, List.set_cons_succ]
  refine' wpAnyH_take (i := 40) (oi := _) (v := _) ?hip40 (by kernel_rfl) ?hfp40 ?hrp40 ?hQp40 ?hyp40 hBp6 ?restp40
  case hip40 => (simp only [List.getElem?_toArray, List.getElem?_cons_zero, List.getElem?_cons_succ]; rfl)
  case hfp40 => kernel_rfl
  case hrp40 => kernel_rfl
  case hQp40 => exact fun _ _ _ h => h
  case hyp40 => refine Or.inl ⟨by rfl, ?_⟩; intro W hSw; go_simp; try with_reducible rfl
  try simp only [Act.put, List.setIfInBounds_toArray, List.set_cons_zero, List.set_cons_succ]
  refine' wpAnyH_take (i := 41) (oi := _) (v := _) ?hip41 (by kernel_rfl) ?hfp41 ?hrp41 ?hQp41 ?hyp41 hBp6 ?restp41
  case hip41 => (simp only [List.getElem?_toArray, List.getElem?_cons_zero, List.getElem?_cons_succ]; rfl)
  case hfp41 => kernel_rfl
  case hrp41 => kernel_rfl
  case hQp41 => exact fun _ _ _ h => h
  case hyp41 => refine Or.inl ⟨by rfl, ?_⟩; intro W hSw; go_simp; try with_reducible rfl
  try simp only [Act.put, List.setIfInBounds_toArray, List.set_cons_zero, List.set_cons_succ]
  refine' wpAnyH_take (i := 42) (oi := _) (v := _) ?hip42 (by kernel_rfl) ?hfp42 ?hrp42 ?hQp42 ?hyp42 hBp6 ?restp42
  case hip42 => (simp only [List.getElem?_toArray, List.getElem?_cons_zero, List.getElem?_cons_succ]; rfl)
  case hfp42 => kernel_rfl
  case hrp42 => kernel_rfl
  case hQp42 => exact fun _ _ _ h => h
  case hyp42 => refine Or.inl ⟨by rfl, ?_⟩; intro W hSw; have hcc := (KS2.out W hSw).link; go_simp; try with_reducible rfl
  try simp only [Act.put, List.setIfInBounds_toArray, List.set_cons_zero, List.set_cons_succ]
  refine wpAnyH_ready (rs := [43]) (by kernel_rfl) (by simp) ?_
  refine' AllReadyH.cons (o := _) ?hip43 (fun K hK => ?_) AllReadyH.nil
  case hip43 => (simp only [List.getElem?_toArray, List.getElem?_cons_zero, List.getElem?_cons_succ]; rfl)
  go_simp
  go_at_call 10
  refine (C4.out _ hBp6).mono ?_
  rintro e Wp9 ⟨rfl, hBp8⟩
  refine hK.out _ _ hBp8 (fun _ => ?_)
  clear hK K
  try simp only [Act.put, List.setIfInBounds_toArray, List.set_cons_zero, List.set_cons_succ]
  refine' wpAnyH_take (i := 44) (oi := _) (v := _) ?hip44 (by kernel_rfl) ?hfp44 ?hrp44 ?hQp44 ?hyp44 hBp8 ?restp44
  case hip44 => (simp only [List.getElem?_toArray, List.getElem?_cons_zero, List.getElem?_cons_succ]; rfl)
  case hfp44 => kernel_rfl
  case hrp44 => kernel_rfl
  case hQp44 => exact fun _ _ _ h => h
  case hyp44 => refine Or.inl ⟨by rfl, ?_⟩; intro W hSw; go_simp; try with_reducible rfl
  try simp only [Act.put, List.setIfInBounds_toArray, List.set_cons_zero, List.set_cons_succ]
  refine' wpAnyH_take (i := 45) (oi := _) (v := _) ?hip45 (by kernel_rfl) ?hfp45 ?hrp45 ?hQp45 ?hyp45 hBp8 ?restp45
  case hip45 => (simp only [List.getElem?_toArray, List.getElem?_cons_zero, List.getElem?_cons_succ]; rfl)
  case hfp45 => kernel_rfl
  case hrp45 => kernel_rfl
  case hQp45 => exact fun _ _ _ h => h
  case hyp45 => refine Or.inl ⟨by rfl, ?_⟩; intro W hSw; go_simp; try with_reducible rfl
  try simp only [Act.put, List.setIfInBounds_toArray, List.set_cons_zero, List.set_cons_succ]
  refine wpAnyH_done (by kernel_rfl) ?_ _
  have B8 := Lib.hid (below_on B5.out (Nat.le_refl _) hBp8)
  have T8 := Lib.hid (And.intro (own_on T5.out.1.2 hBp8) (And.intro (own_on T5.out.2.1.2 hBp8) (own_on T5.out.2.2.1 hBp8)))
  have HN := Lib.hid (And.intro HF.out.2.2.2.2.2.1 (And.intro HF.out.2.2.2.2.2.2.1 HF.out.2.2.2.2.2.2.2.1))
  clear C1 C2 C3 C4 KS2 S5 hE HE hl hr HF T5 B5 
  obtain ⟨w8, hw8⟩ : ∃ w8, w8 = Wp9 := ⟨_, rfl⟩
  rw [← hw8] at T8 B8 ⊢
  clear hw8
  go_upto_region 10 with fail
  have K0 := book_new w w8 B8.out
  have bb := below_alloc w8 (.cells #[.int .i64 0, .slice none 0 0, .slice none 0 0, .slice none 0 0, .slice none 0 0, .slice none 0 0, .slice none 0 0, .slice none 0 0, .slice none 0 0, .slice none 0 0] 44)
  have o1 := own_on T8.out.1 bb
  have o2 := own_on T8.out.2.1 bb
  have o3 := own_on T8.out.2.2 bb
  obtain ⟨wb, hwb⟩ : ∃ wb, wb = w8.alloc (.cells #[.int .i64 0, .slice none 0 0, .slice none 0 0, .slice none 0 0, .slice none 0 0, .slice none 0 0, .slice none 0 0, .slice none 0 0, .slice none 0 0, .slice none 0 0] 44) := ⟨_, rfl⟩
  rw [← hwb] at K0 bb o1 o2 o3 ⊢
  clear hwb bb
  have l1 := fun b (hb : (Value.slice (some ad1) n c1).ownBlock = some b) => (T8.out.1.lt b hb).2
  have l2 := fun b (hb : (Value.slice (some ad2) m c2).ownBlock = some b) => (T8.out.2.1.lt b hb).2
  have l3 := fun b (hb : (Value.slice A4 dd c4).ownBlock = some b) => (T8.out.2.2.lt b hb).2
  have f1 := fun b (hb : (Value.slice (some ad1) n c1).ownBlock = some b) => (F1.out.lt b hb).2
  have f2 := fun b (hb : (Value.slice (some ad2) m c2).ownBlock = some b) => (F2.out.lt b hb).2
  obtain ⟨kb, hkb⟩ : ∃ kb, w8.heap.size = kb := ⟨_, rfl⟩
  rw [hkb] at K0 l1 l2 l3 ⊢
  clear hkb
  have g01 : w.heap.size ≤ w1.heap.size := G3.out.1.2.1
  have g12 : w1.heap.size ≤ w2.heap.size := G3.out.1.1
  have g23 : w2.heap.size ≤ w3.heap.size := G3.out.1.2.2
  have far1 := held_far (q := 0 + 1) [] (held_none w2.heap.size) f1
  have far2 := held_far (q := 0 + 1 + 1) ([] ++ [(⟨some ad1, n, c1, none, 0, 0, 0 + 1⟩ : Held)]) (fun i k hk b hb => Nat.lt_of_lt_of_le (far1 i k hk b hb) g23) f2
  have CB1 := Lib.hid (book_more K0 o1 g01 (held_none _) (by have := HN.out; omega) (by omega))
  have HH := Lib.hid (And.intro o2 (And.intro o3 (And.intro l2 l3)))
  have HG := Lib.hid (And.intro far1 (And.intro far2 (And.intro (Nat.le_trans g01 g12) (Nat.le_trans (Nat.le_trans g01 g12) g23))))
  clear K0 o1 o2 o3 l1 l2 l3 f1 f2 g01 g12 g23 far1 far2 G3 F1 F2 T8 B8
  go_wp2_with fail
  refine CB1.out.mono ?_
  rintro e x1 ⟨rfl, ⟨ss1, hB1⟩, hu1⟩
  have CB2 := Lib.hid (book_more hB1 (own_kept_but HH.out.1 hu1 (fun b hb h => by have := HH.out.2.2.1 b hb; omega)) HG.out.2.2.1 HG.out.1 (by have := HN.out; omega) (by omega))
  have HX := Lib.hid (own_kept_but HH.out.2.1 hu1 (fun b hb h => by have := HH.out.2.2.2 b hb; omega))
  clear CB1 hB1 hu1
  go_wp2_with fail
  refine CB2.out.mono ?_
  rintro e x2 ⟨rfl, ⟨ss2, hB2⟩, hu2⟩
  have CB3 := Lib.hid (book_more hB2 (own_kept_but HX.out hu2 (fun b hb h => by have := HH.out.2.2.2 b hb; omega)) HG.out.2.2.2 HG.out.2.1 (by have := HN.out; omega) (by omega))
  clear CB2 hB2 hu2 HX
  go_wp2_with fail
  refine CB3.out.mono ?_
  rintro e x3 ⟨rfl, ⟨ss3, hB3⟩, hu3⟩
  have CA := Lib.hid (apart_any kb _ w.heap.size 0 _ (.slice none 0 0) ss3 [] _ x3 hB3.kept)
  have HBL := Lib.hid hB3.bel
  clear CB3 hB3 hu3
  go_wp2_with fail
  refine CA.out.mono ?_
  rintro e x4 ⟨rfl, hb4⟩
  go_wp2_with fail
  go_ret
  refine ⟨rfl, ?_⟩
  first
    | exact HBL.out.trans hb4
    | (rw [← HB0.out]; exact HBL.out.trans hb4)
end

theorem linksOf_law (w : World) (hk : Knows w) (hs : Starts w) (EA : Addr) (hmi : Miss w EA) {A B : Option Addr} {n c from_ size m d : Nat} {ys leaf zs root : List Nat} (cm : CameS w A n c ys) (z : Int) (h1 : from_ < 18446744073709551616) (h2 : size < 18446744073709551616) (hl : leaf.length = 32) (hb : ∀ x ∈ leaf, x < 256) (hr : root.length = 32) (_ : ∀ x ∈ root, x < 256) (cz : CameS w B m d zs) :
    Calls Tryz.prog 3 #[.slice A n c, .int .i64 z, .agg (saidK from_ size leaf root B m d).toArray] w fun e w' => e = .returned (.bool true) ∧ Below w.heap.size w w' := by
  by_cases h : 100 < n ∨ 200 < m
  · exact of_else hl hr h
  · by_cases hz : z < 1 ∨ (n : Int) < z
    · refine of_main hk hs hmi cm cz hl hb h1 h2 hr (by omega) (by omega) 0 1 [] (by omega) (by decide) (fun W ad c' hW hi hc => ?_) (fun W hW => ?_)
      · exact (kof_no (w := W) (n := n) (c := c') (A := some ad) z hz).mono fun e w' ⟨he, hw⟩ => ⟨none, 0, he, own_none _ _ _ _, by rw [hw]; exact Below.refl _ _⟩
      · exact (refKOf_no (w := W) (n := n) (c := c) (A := A) z hz).mono fun e w' ⟨he, hw⟩ => ⟨none, 0, he, own_none _ _ _ _, by rw [hw]; exact Below.refl _ _⟩
    · obtain ⟨k, rfl⟩ := Int.eq_ofNat_of_zero_le (a := z) (by omega)
      have hk1 : 1 ≤ k := by omega
      have hkn : k ≤ n := by omega
      refine of_main hk hs hmi cm cz hl hb h1 h2 hr (by omega) (by omega) (ldep k n true) 0 (linkL (nth ys) 0 n k true).flatten (Nat.le_trans (ldep_64 (by omega) k true) (by omega)) (by decide) (fun W ad c' hW hi hc => ?_) (fun W hW => ?_)
      · exact kof_yes hi cm.lt hc (by omega) hk1 hkn (hk.below hW) (hs.below hW)
      · exact refKOf_yes (cm.in_.below hW) cm.lt cm.cap (by omega) hk1 hkn

end Go.Proofs.YtilgikhdamkeoaaGreatDoor

/-
  What the three listed variables hold when a call begins: two of package shas, and the sentinel of package links.
-/
namespace Go.Proofs.YtilgikhdamkeoaaGreatDoor
open Go.ChangeShapes Go.WideShapes Go.ChangeAt Go.RowKit

theorem gMissing : Tryz.prog.globalNamed "almoner/links.errMissing" = some 0 := by kernel_rfl
theorem tMissing : (Tryz.prog.globals[0]?).map (·.type) = some 51 := by kernel_rfl
theorem cellsEs : Tryz.prog.cellsOf 209 = 1 := by kernel_rfl
theorem cellsStr : Tryz.prog.cellsOf 9 = 1 := by kernel_rfl
theorem starEs : "*" ++ "errors.errorString" = "*errors.errorString" := by decide
theorem rowEs (u : TypeId) (h : Tryz.prog.typeName? 3 u = some "*errors.errorString") : u = 184 :=
  typeName_ptr_named (nm := "errors.errorString") (by rw [starEs]; kernel_rfl) (by kernel_rfl) (by decide) u (by rw [starEs]; exact h)

def laid1 : List (String × DataW Unit) := [("almoner/links.errMissing", Rows.laid_almoner_links_errMissing)]

set_option maxRecDepth 100000 in
theorem of_laid1 {W : World} (h : laidMetH Tryz.prog laid1 W) : ∃ E, Miss W E := by
  rw [MakeChecks.laidMetH_plain _ _ _ (by kernel_rfl)] at h
  obtain ⟨ps, ⟨g0', t0', cs0, f0, p0, q0, hg0', ht0', hv0, hd0, _, e0⟩, hnd, hrows⟩ := h
  obtain rfl := Option.some.inj (gMissing.symm.trans hg0')
  obtain rfl := Option.some.inj (tMissing.symm.trans ht0')
  subst e0
  obtain ⟨l0⟩ := cs0
  have ok0 : ∀ u v, l0 = [.iface u v] → Value.okWide Tryz.prog W .any 0 u v := fun u v e => by
    subst e
    exact (hrows 0 0 (by simp [MemPlace.row])).2 u v (by simpa using World.var?_cell hg0' hv0 0)
  obtain ⟨a0, s0, rfl, hc0, hs0, hz0, rfl⟩ := errorString_of_trod Tryz.underlying51 rowEs Tryz.underlying184 Tryz.underlying209 rfl rfl Tryz.underlying9 cellsEs cellsStr hd0 ok0
  exact ⟨a0, by simpa [Miss, missV] using World.var?_cell hg0' hv0 0⟩

def laidK : List (String × DataW Unit) := [("almoner/shas.start", Rows.laid_almoner_shas_start), ("almoner/shas.added", Rows.laid_almoner_shas_added), ("almoner/links.errMissing", Rows.laid_almoner_links_errMissing)]
def isShas (x : String × DataW Unit) : Bool := ["almoner/shas.start", "almoner/shas.added"].contains x.1
def isMiss (x : String × DataW Unit) : Bool := ["almoner/links.errMissing"].contains x.1
theorem laidK_shas : laidK.filter isShas = laid2 := by
  unfold laidK laid2 isShas
  simp [List.filter]
theorem laidK_miss : laidK.filter isMiss = laid1 := by
  unfold laidK laid1 isMiss
  simp [List.filter]

theorem of_laidK {W : World} (h : laidMetH Tryz.prog laidK W) : (Starts W ∧ Knows W) ∧ ∃ E, Miss W E := by
  have h1 := h.filter isShas
  rw [laidK_shas] at h1
  have h2 := h.filter isMiss
  rw [laidK_miss] at h2
  exact ⟨of_laid h1, of_laid1 h2⟩

end Go.Proofs.YtilgikhdamkeoaaGreatDoor

/-
  Six listed variables: two of package shas, the sentinel of package links, and three tables of the library's.
-/
namespace Go.Proofs.YtilgikhdamkeoaaGreatDoor
open Go.ChangeShapes Go.WideShapes Go.ChangeAt Go.RowKit

def laidK6 : List (String × DataW Unit) := [("math/bits.deBruijn32tab", Rows.laid_math_bits_deBruijn32tab), ("math/bits.deBruijn64tab", Rows.laid_math_bits_deBruijn64tab), ("internal/strconv.uint64pow10", Rows.laid_internal_strconv_uint64pow10), ("almoner/shas.start", Rows.laid_almoner_shas_start), ("almoner/shas.added", Rows.laid_almoner_shas_added), ("almoner/links.errMissing", Rows.laid_almoner_links_errMissing)]
def isOurs (x : String × DataW Unit) : Bool := ["almoner/shas.start", "almoner/shas.added", "almoner/links.errMissing"].contains x.1
theorem laidK6_ours : laidK6.filter isOurs = laidK := by
  unfold laidK6 laidK isOurs
  simp [List.filter]

theorem of_laidK6 {W : World} (h : laidMetH Tryz.prog laidK6 W) : (Starts W ∧ Knows W) ∧ ∃ E, Miss W E := by
  have h3 := h.filter isOurs
  rw [laidK6_ours] at h3
  exact of_laidK h3

end Go.Proofs.YtilgikhdamkeoaaGreatDoor
