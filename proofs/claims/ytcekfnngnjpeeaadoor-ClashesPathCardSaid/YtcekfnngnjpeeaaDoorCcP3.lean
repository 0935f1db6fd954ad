/-
  Several texts in one: CDPath, WNext, LStoreSum, WLead, WEnd, WCheck, CPath, LArrArg, LListSum, CArg, LRowsCap, CSaid, CPathLaw, ShaLaid, KLaid.
-/
import Derived.Test.YtcekfnngnjpeeaaDoorCcP2
import Derived.Test.YtcekfnngnjpeeaaDoorWPure
import Derived.Test.YtcekfnngnjpeeaaDoorVTools
import Derived.Test.YtcekfnngnjpeeaaDoorLBut
import Derived.Recover
import Derived.Test.YtcekfnngnjpeeaaDoorLSum
import Derived.Test.YtcekfnngnjpeeaaDoorLBArr
import Derived.Deep.MidRow
import Derived.Test.YtcekfnngnjpeeaaDoorLPre
import Derived.ProofKit
import Derived.OpenShut
import Derived.Test.YtcekfnngnjpeeaaDoorLRowS
import Derived.Test.YtcekfnngnjpeeaaDoorLRows
import Derived.Test.YtcekfnngnjpeeaaDoorCIs
import Derived.Test.YtcekfnngnjpeeaaDoorShaNew
import Derived.Test.YtcekfnngnjpeeaaDoorRows
import Derived.LaidMore
import Derived.Stop.Joined
import Derived.LaidSub
import Derived.Stop.LaidErr
import Derived.Stop.LaidTwo
/-
  clashes.downPath: the root, and what a path leads to; or a clash.
-/
namespace Go.Proofs.YtcekfnngnjpeeaaDoor
open Go.RowKit

theorem nth_of_len {ys : List Nat} {q j : Nat} (h : ys.length = 32 * q) (hj : j < q) : (nth ys j).length = 32 := nth_length h hj
theorem run_take_sumsN {ad : Addr} {n c k : Nat} (hk : k ≤ n) (hc : n ≤ c) (W : World) :
    (Instr.slice 33 (.slice (some ad) n c) none (some (.int .i64 (k : Int))) none).run Tryd.prog W = .ok (.slice (some ad) k c) W := run_take_sums hk hc W
/-- A pair that a variable holds, as a load. -/
theorem load_pair_op {o : Oper} {a : Act} {W : World} {g : Nat} {T : TypeId} {s : List Nat} (p : Operand) (ho : o.op = .load 58 p) (hp : a.eval p = .pointer (some ⟨g, 0, none⟩)) (hs : s.length = 64) (h : BArr W g T s) : (execOp a.eval o).run Tryd.prog W = .ok (.value (sv s)) W := by
  unfold execOp
  simp only [ho, hp, Instr.loadAt, Instr.sureAddr, Sem.run_bind, Sem.run_pure, Result.andThen_ok, run_load_pairC W ⟨g, 0, none⟩ s hs h.at_]
theorem load_sum_op {o : Oper} {a : Act} {W : World} {ad : Addr} {s : List Nat} (p : Operand) (ho : o.op = .load 29 p) (hp : a.eval p = .pointer (some ad)) (hs : s.length = 32) (h : At W ad s) : (execOp a.eval o).run Tryd.prog W = .ok (.value (sv s)) W := by
  unfold execOp
  simp only [ho, hp, Instr.loadAt, Instr.sureAddr, Sem.run_bind, Sem.run_pure, Result.andThen_ok, run_load_sum W ad s hs h]
theorem but_barr {S : Nat → Prop} {a w : World} (h : But S a w) {g : Nat} {T : TypeId} {xs : List Nat} (hc : BArr a g T xs) (hS : ¬ S g) : BArr w g T xs := (h.block g hc.lt hS).trans hc
theorem but_at {S : Nat → Prop} {a w : World} (h : But S a w) {ad : Addr} {xs : List Nat} (hc : At a ad xs) (hS : ¬ S ad.block) : At w ad xs := fun j x hx => but_cell h (hc j x hx) (by rw [block_add]; exact hS)

theorem sub_op {o : Oper} {a : Act} {W : World} {x y : Int} {z : Int} (p q : Operand) (ho : o.op = .binOp .sub 3 p q 3) (hp : a.eval p = .int .i64 x) (hq : a.eval q = .int .i64 y) (hz : IntKind.i64.wrap (x - y) = z) :
    (execOp a.eval o).run Tryd.prog W = .ok (.value (.int .i64 z)) W := by
  unfold execOp
  rw [ho]
  simp only [hp, hq]
  go_simp
  try rw [hz]
  try rfl

section
variable {w : World} {A : Addr} {B P : Option Addr} {n c m d q r at_ : Nat} {R : List (List Nat)} {b ys : List Nat}

set_option maxRecDepth 100000 in
set_option maxHeartbeats 8000000 in
theorem dpath_one (E1 : Ent w (some A) 1 c R) (hB : Came w B m d b) (hm : m ≤ 20000) (hI : InS w P q ys) (_ : ∀ x ∈ ys, x < 256) (_ : q ≤ r) (_ : q = dep at_ 1) (hat : at_ < 1) (hk : Knows w) (hks : Starts w) :
    Calls Tryd.prog 39 #[.slice (some A) 1 c, .int .i64 (at_ : Int), .slice B m d, .slice P q r] w fun e w' => Told w.heap.size (sv (rtl R ++ leadF (nth ys) (leafL b) at_ 1 0)) (rtl R = leadF (nth ys) (leafL b) at_ 1 0 → R[at_]? = some b) e w' ∧ Below w.heap.size w w' := by
  obtain ⟨g, hg⟩ : ∃ g, w.heap.size = g := ⟨_, rfl⟩
  have f1 := BArr.new w 58 zero64
  have b1 := below_alloc w (.cells (bvs zero64).toArray 58)
  have e0 : (bvs zero64).toArray = #[.int .u8 0, .int .u8 0, .int .u8 0, .int .u8 0, .int .u8 0, .int .u8 0, .int .u8 0, .int .u8 0, .int .u8 0, .int .u8 0, .int .u8 0, .int .u8 0, .int .u8 0, .int .u8 0, .int .u8 0, .int .u8 0, .int .u8 0, .int .u8 0, .int .u8 0, .int .u8 0, .int .u8 0, .int .u8 0, .int .u8 0, .int .u8 0, .int .u8 0, .int .u8 0, .int .u8 0, .int .u8 0, .int .u8 0, .int .u8 0, .int .u8 0, .int .u8 0, .int .u8 0, .int .u8 0, .int .u8 0, .int .u8 0, .int .u8 0, .int .u8 0, .int .u8 0, .int .u8 0, .int .u8 0, .int .u8 0, .int .u8 0, .int .u8 0, .int .u8 0, .int .u8 0, .int .u8 0, .int .u8 0, .int .u8 0, .int .u8 0, .int .u8 0, .int .u8 0, .int .u8 0, .int .u8 0, .int .u8 0, .int .u8 0, .int .u8 0, .int .u8 0, .int .u8 0, .int .u8 0, .int .u8 0, .int .u8 0, .int .u8 0, .int .u8 0] := rfl
  rw [e0] at f1 b1
  obtain ⟨w1, hw1⟩ : ∃ x, x = w.alloc (.cells #[.int .u8 0, .int .u8 0, .int .u8 0, .int .u8 0, .int .u8 0, .int .u8 0, .int .u8 0, .int .u8 0, .int .u8 0, .int .u8 0, .int .u8 0, .int .u8 0, .int .u8 0, .int .u8 0, .int .u8 0, .int .u8 0, .int .u8 0, .int .u8 0, .int .u8 0, .int .u8 0, .int .u8 0, .int .u8 0, .int .u8 0, .int .u8 0, .int .u8 0, .int .u8 0, .int .u8 0, .int .u8 0, .int .u8 0, .int .u8 0, .int .u8 0, .int .u8 0, .int .u8 0, .int .u8 0, .int .u8 0, .int .u8 0, .int .u8 0, .int .u8 0, .int .u8 0, .int .u8 0, .int .u8 0, .int .u8 0, .int .u8 0, .int .u8 0, .int .u8 0, .int .u8 0, .int .u8 0, .int .u8 0, .int .u8 0, .int .u8 0, .int .u8 0, .int .u8 0, .int .u8 0, .int .u8 0, .int .u8 0, .int .u8 0, .int .u8 0, .int .u8 0, .int .u8 0, .int .u8 0, .int .u8 0, .int .u8 0, .int .u8 0, .int .u8 0] 58) := ⟨_, rfl⟩
  rw [← hw1] at f1 b1
  have s1 : w1.heap.size = g + 1 := by rw [hw1]; simp [hg]
  have HW := Lib.hid hw1
  have HG := Lib.hid hg
  have HE0 := Lib.hid e0
  have b01 := b1
  rw [hg] at f1 b1
  have H2 := Lib.hid (And.intro b1 (And.intro f1 s1))
  obtain ⟨Q, hQ⟩ : ∃ Q, rtl R ++ leadF (nth ys) (leafL b) at_ 1 0 = Q := ⟨_, rfl⟩
  have hal := hI.len
  have Ql : Q.length = 64 := by
    rw [← hQ, List.length_append, rtl_length, leadF_length _ _ (leafL_length _)]
  obtain ⟨ad, X, kx, qx, xs, eA, hxs, hcx, hX, kxl⟩ := E1.at_ (j := 0) (by omega)
  cases eA
  have eR : R = [xs] := by
    have hl := E1.len
    match R, hl with
    | [r], _ => cases hxs; rfl
  have a0 : at_ = 0 := by omega
  have CL := Lib.hid (show Calls Tryd.prog 56 #[.slice X kx qx, .slice B m d] w1 fun e w' => Told g (sv Q) (rtl R = leadF (nth ys) (leafL b) at_ 1 0 → R[at_]? = some b) e w' ∧ Below w1.heap.size w1 w' from
    (cleaf_any (hX.below b01) (hB.below b01) kxl hm (hk.below b01) (hks.below b01)).mono fun e w' ⟨h, hb'⟩ => ⟨(h.low (by omega)).imp (by rw [← hQ, eR, rtl_one, leadF_one _ _ (by omega)]) (fun h => by rw [eR, rtl_one, leadF_one _ _ (by omega), a0]; intro e; rw [h e]; rfl), hb'⟩)
  rw [add_zero'] at hcx
  have hcc : w1.cell? A = some (.slice X kx qx) := (b01.cell (World.block_lt_of_cell? w _ hcx)).trans hcx
  rw [hg, hQ]
  clear e0 hw1 hg hQ hk hks E1 eR hxs hcx hX b01 kxl f1 b1 s1 hal hI hB
  go_enter Tryd.func39, Tryd.ntmps39
  go_upto_region 1 with fail
  rw [← HW.out]
  rw [HG.out]
  go_wp2_with fail
  refine CL.out.mono ?_
  rintro e w2 ⟨hT, hb2⟩
  have hf := H2.out.2.1.below hb2
  have hz := below_on H2.out.1 (Nat.le_of_eq HG.out.symm) hb2
  rcases hT with ⟨rfl, hsame⟩ | ⟨u, rfl, hu⟩
  · have HS := Lib.hid (And.intro hsame hz)
    have HZ64 : zero64.length = 64 := rfl
    clear hsame hb2 hz
    go_wp2_with (with_reducible refine wpList_store_pairC rfl (.tmp 8) (.tmp 20) rfl g rfl zero64 Q HZ64 Ql hf rfl ?_)
    refine bodyPost_ret_by (results_cell_row (p := 8) (ty := 58) (by kernel_rfl) _ _ g 58 (bvs Q).toArray (0, 0) _ rfl (hf.setRow _) Tryd.underlying58 rfl (by rw [List.size_toArray, bvs_length, Ql]; exact sizePairC)) rfl ?_
    exact ⟨.inl ⟨rfl, HS.out.1⟩, below_setRow HS.out.2 (Nat.le_refl _) _⟩
  · have HU := Lib.hid (And.intro hu hz)
    clear hu hb2 hz
    go_wp2_with fail
    exact ⟨rfl, .inr ⟨u, rfl, HU.out.1⟩, HU.out.2⟩

set_option maxRecDepth 100000 in
set_option maxHeartbeats 8000000 in
theorem dpath_low (E1 : Ent w (some A) n c R) (hB : Came w B m d b) (_ : m ≤ 20000) (hI : InS w P q ys) (hy : ∀ x ∈ ys, x < 256) (hqr : q ≤ r) (hq : q = dep at_ n) (hat : at_ < n) (hk : Knows w) (hks : Starts w) (h2n : 2 ≤ n) (hn6 : n ≤ 60000) (hside : at_ < cutN n)
    (ih : ∀ k, k < n → ∀ (w : World) (A : Addr) (P : Option Addr) (c q at_ : Nat) (R : List (List Nat)) (ys : List Nat), Ent w (some A) k c R → Came w B m d b → InS w P q ys → (∀ x ∈ ys, x < 256) → q ≤ r → q = dep at_ k → at_ < k → Knows w → Starts w →
      Calls Tryd.prog 39 #[.slice (some A) k c, .int .i64 (at_ : Int), .slice B m d, .slice P q r] w fun e w' => Told w.heap.size (sv (rtl R ++ leadF (nth ys) (leafL b) at_ k 0)) (rtl R = leadF (nth ys) (leafL b) at_ k 0 → R[at_]? = some b) e w' ∧ Below w.heap.size w w') :
    Calls Tryd.prog 39 #[.slice (some A) n c, .int .i64 (at_ : Int), .slice B m d, .slice P q r] w fun e w' => Told w.heap.size (sv (rtl R ++ leadF (nth ys) (leafL b) at_ n 0)) (rtl R = leadF (nth ys) (leafL b) at_ n 0 → R[at_]? = some b) e w' ∧ Below w.heap.size w w' := by
  obtain ⟨g, hg⟩ : ∃ g, w.heap.size = g := ⟨_, rfl⟩
  have f1 := BArr.new w 58 zero64
  have b1 := below_alloc w (.cells (bvs zero64).toArray 58)
  have e0 : (bvs zero64).toArray = #[.int .u8 0, .int .u8 0, .int .u8 0, .int .u8 0, .int .u8 0, .int .u8 0, .int .u8 0, .int .u8 0, .int .u8 0, .int .u8 0, .int .u8 0, .int .u8 0, .int .u8 0, .int .u8 0, .int .u8 0, .int .u8 0, .int .u8 0, .int .u8 0, .int .u8 0, .int .u8 0, .int .u8 0, .int .u8 0, .int .u8 0, .int .u8 0, .int .u8 0, .int .u8 0, .int .u8 0, .int .u8 0, .int .u8 0, .int .u8 0, .int .u8 0, .int .u8 0, .int .u8 0, .int .u8 0, .int .u8 0, .int .u8 0, .int .u8 0, .int .u8 0, .int .u8 0, .int .u8 0, .int .u8 0, .int .u8 0, .int .u8 0, .int .u8 0, .int .u8 0, .int .u8 0, .int .u8 0, .int .u8 0, .int .u8 0, .int .u8 0, .int .u8 0, .int .u8 0, .int .u8 0, .int .u8 0, .int .u8 0, .int .u8 0, .int .u8 0, .int .u8 0, .int .u8 0, .int .u8 0, .int .u8 0, .int .u8 0, .int .u8 0, .int .u8 0] := rfl
  rw [e0] at f1 b1
  obtain ⟨w1, hw1⟩ : ∃ x, x = w.alloc (.cells #[.int .u8 0, .int .u8 0, .int .u8 0, .int .u8 0, .int .u8 0, .int .u8 0, .int .u8 0, .int .u8 0, .int .u8 0, .int .u8 0, .int .u8 0, .int .u8 0, .int .u8 0, .int .u8 0, .int .u8 0, .int .u8 0, .int .u8 0, .int .u8 0, .int .u8 0, .int .u8 0, .int .u8 0, .int .u8 0, .int .u8 0, .int .u8 0, .int .u8 0, .int .u8 0, .int .u8 0, .int .u8 0, .int .u8 0, .int .u8 0, .int .u8 0, .int .u8 0, .int .u8 0, .int .u8 0, .int .u8 0, .int .u8 0, .int .u8 0, .int .u8 0, .int .u8 0, .int .u8 0, .int .u8 0, .int .u8 0, .int .u8 0, .int .u8 0, .int .u8 0, .int .u8 0, .int .u8 0, .int .u8 0, .int .u8 0, .int .u8 0, .int .u8 0, .int .u8 0, .int .u8 0, .int .u8 0, .int .u8 0, .int .u8 0, .int .u8 0, .int .u8 0, .int .u8 0, .int .u8 0, .int .u8 0, .int .u8 0, .int .u8 0, .int .u8 0] 58) := ⟨_, rfl⟩
  rw [← hw1] at f1 b1
  have s1 : w1.heap.size = g + 1 := by rw [hw1]; simp [hg]
  have HW := Lib.hid hw1
  have HG := Lib.hid hg
  have HE0 := Lib.hid e0
  have b01 := b1
  rw [hg] at f1 b1
  have H2 := Lib.hid (And.intro b1 (And.intro f1 s1))
  obtain ⟨Q, hQ⟩ : ∃ Q, rtl R ++ leadF (nth ys) (leafL b) at_ n 0 = Q := ⟨_, rfl⟩
  have hal := hI.len
  have Ql : Q.length = 64 := by
    rw [← hQ, List.length_append, rtl_length, leadF_length _ _ (leafL_length _)]
  have hcl := cutN_lt h2n
  have hcp := cutN_pos n
  have hcR := rtl_cut E1.len h2n
  have hdp := hq.trans (dep_low h2n hside)
  have hld := leadF_low (nth ys) (leafL b) h2n hside 0
  obtain ⟨k, hk0⟩ : ∃ k, cutN n = k := ⟨_, rfl⟩
  have CL := Lib.hid (show Calls Tryd.prog 58 #[.int .i64 (n : Int)] w1 fun e w' => e = .returned (.int .i64 (k : Int)) ∧ w' = w1 from (cleft_any n w1 h2n (by omega)).mono fun e w' ⟨h1, h2⟩ => ⟨by rw [h1, hk0], h2⟩)
  rw [hk0] at hcl hcp hcR hdp hld hside
  have hq1 : 1 ≤ q := by omega
  have hqb : q ≤ 64 := by rw [hq]; exact dep_64 hat (by omega)
  obtain ⟨pd, rfl⟩ := hI.some_ (by omega)
  obtain ⟨Z, hZ⟩ : ∃ Z, nth ys (q - 1) = Z := ⟨_, rfl⟩
  have Zl : Z.length = 32 := by rw [← hZ]; exact nth_length hI.len (by omega)
  have Zb : ∀ x ∈ Z, x < 256 := by rw [← hZ]; exact nth_lt hy _
  obtain ⟨pd', epd, _, hatZ⟩ := hI.at_ (k := q - 1) (by omega)
  cases epd
  rw [hZ] at hatZ
  obtain ⟨L, hL⟩ : ∃ L, leadF (nth ys) (leafL b) at_ k 0 = L := ⟨_, rfl⟩
  have Ll : L.length = 32 := by rw [← hL]; exact leadF_length _ _ (leafL_length _) _ _ _
  have Lb : ∀ x ∈ L, x < 256 := by rw [← hL]; exact leadF_lt _ _ (leafL_lt _) _ _ _
  obtain ⟨R1, hR1⟩ : ∃ x, R.take k = x := ⟨_, rfl⟩
  obtain ⟨R2, hR2⟩ : ∃ x, R.drop k = x := ⟨_, rfl⟩
  have hfin : R1[at_]? = some b → R[at_]? = some b := by rw [← hR1]; exact fun e => by have := e; rw [List.getElem?_take, if_pos (by omega)] at this; exact this
  have hnl : rtl R = nodeL (rtl R1) (rtl R2) := by rw [← hR1, ← hR2]; exact hcR
  have hnr : leadF (nth ys) (leafL b) at_ n 0 = nodeL L Z := by rw [hld, hL, Nat.zero_add, show dep at_ k = q - 1 by omega, hZ]
  have C1 := Lib.hid (fun (W : World) (hW : Below w.heap.size w W) => show Calls Tryd.prog 39 #[(.slice (some A) k c), .int .i64 (at_ : Int), .slice B m d, .slice (some pd) (q - 1) r] W fun e w' => Told g (sv (rtl R1 ++ L)) (rtl R1 = L → R1[at_]? = some b) e w' ∧ Below W.heap.size W w' from by
    have hcg : leadF (nth (ys.take (32 * (q - 1)))) (leafL b) at_ k 0 = L := by
      rw [← hL]
      exact leadF_congr _ _ _ _ _ _ fun j hj => nth_take (by omega)
    have := ih k (by omega) W _ (some pd) _ (q - 1) at_ _ (ys.take (32 * (q - 1))) ((E1.below hW).take (k := k) (by omega)) (hB.below hW) ((hI.below hW).take (by omega)) (fun x hx => hy x (List.mem_of_mem_take hx)) (by omega) (by omega) (by omega) (hk.below hW) (hks.below hW)
    rw [hR1, hcg] at this
    exact this.mono fun e w' ⟨h, hb'⟩ => ⟨h.low (by have := hW.size; omega), hb'⟩)
  have CRT := Lib.hid (fun (W : World) (hW : Below w.heap.size w W) => show Calls Tryd.prog 30 #[(.slice (some (A.add k)) (n - k) (c - k))] W fun e w' => e = .returned (sv (rtl R2)) ∧ Below W.heap.size W w' from by
    rw [← hR2]; exact croot_any ((E1.below hW).drop (k := k)) (by omega) (hk.below hW) (hks.below hW))
  have C3 := Lib.hid (fun (W : World) (hW : Below w.heap.size w W) (h1 : rtl R1 = L → R1[at_]? = some b) => show Calls Tryd.prog 59 #[sv (rtl R1 ++ L), sv (rtl R2 ++ Z)] W fun e w' => Told g (sv Q) (rtl R = leadF (nth ys) (leafL b) at_ n 0 → R[at_]? = some b) e w' ∧ Below W.heap.size W w' from
    (cnode_any (w := W) (rtl_length _) Ll (rtl_length _) Zl (rtl_lt _) Lb (rtl_lt _) Zb (hk.below hW) (hks.below hW)).mono fun e w' ⟨h, hb'⟩ => ⟨(h.low (by have := hW.size; omega)).imp (by rw [← hQ, hnl, hnr]) (fun h => by rw [hnl, hnr]; intro e; exact hfin (h1 (h e).1)), hb'⟩)
  have HAZ := Lib.hid (fun (W : World) (hW : Below w1.heap.size w1 W) => show At W (pd.add ((q - 1) * 32)) Z from (hatZ.below b01).below hW)
  have hpb : pd.block < g := by
    have := hatZ 0 (Z.getD 0 0) (by rw [List.getD_eq_getElem?_getD, List.getElem?_eq_getElem (by omega)]; rfl)
    have h1 := World.block_lt_of_cell? w _ this
    rw [block_add, block_add, hg] at h1
    exact h1
  have t1 := fun W => run_takeR (A := some A) (n := n) (c := c) (k := k) (by omega) E1.cap (fun e => by cases e) W
  have t2 := fun W => run_dropR (ad := A) (n := n) (c := c) (k := k) hcl E1.cap W
  have t3 := fun W => run_take_sums (ad := pd) (n := q) (c := r) (k := q - 1) (by omega) hqr W
  have hn1 : ((n : Int) == 1) = false := by simp; omega
  have hq0 : (q : Int) - 1 = ((q - 1 : Nat) : Int) := by omega
  have hq2 : ((q - 1 : Nat) : Int) < (q : Int) := by omega
  have hsd : (at_ : Int) < (k : Int) := by omega
  have B2 := Lib.hid b01
  have R1l : (rtl R1 ++ L).length = 64 := by rw [List.length_append, rtl_length, Ll]
  have rl2 := rtl_length R2
  have HR1 := Lib.hid (And.intro hR1 hR2)
  obtain ⟨T1, hT1⟩ : ∃ x, rtl R1 ++ L = x := ⟨_, rfl⟩
  obtain ⟨T2, hT2⟩ : ∃ x, rtl R2 = x := ⟨_, rfl⟩
  rw [hT1] at C1 C3 R1l
  rw [hT2] at CRT C3 rl2
  rw [hg, hQ]
  clear e0 hw1 hg hQ hk hks E1 b01 f1 b1 s1 hal hI hy hB hq ih hcR hdp hld hfin hnl hnr hR1 hR2 hL hZ hatZ hk0 hT1 hT2 h2n hn6 hside hqr
  go_enter Tryd.func39, Tryd.ntmps39
  go_upto_region 1 with fail
  rw [← HW.out]
  rw [HG.out]
  go_upto_region 3 with fail
  go_wp2_with fail
  refine CL.out.mono ?_
  rintro e w' ⟨rfl, e1⟩
  obtain rfl := e1.symm
  clear e1 CL
  go_upto_region 5 with fail
  clear hcl hcp hn1
  go_cut [11] from 30 to 38 (fun s1 wx => ∃ p, s1 = .pointer (some ⟨p, 0, none⟩) ∧ Hid (BArr wx p 58 T1 ∧ (rtl R1 = L → R1[at_]? = some b) ∧ w1.heap.size ≤ p ∧ Below w1.heap.size w1 wx))
  case first =>
    have hSa1 : Below w1.heap.size w1 w1.drew := (Below.refl _ _).drew
    refine wp_region_held_drew (S := fun W => Below w1.heap.size w1 W) (by kernel_rfl) (hSa1) (fun _ => ?_)
    change wpAnyH _ _ _ _ _ _ _ _ w1.drew
    generalize w1.drew = Wa2 at hSa1 ⊢
    refine' wpAnyH_take (i := 0) (oi := _) (v := _) ?hia3 (by kernel_rfl) ?hfa3 ?hra3 ?hQa3 ?hya3 (hSa1) ?resta3
    case hia3 => (simp only [List.getElem?_toArray, List.getElem?_cons_zero]; rfl)
    case hfa3 => kernel_rfl
    case hra3 => kernel_rfl
    case hQa3 => exact fun _ _ _ h => h
    case hya3 => refine Or.inl ⟨by rfl, ?_⟩; intro W hSw; go_simp; try with_reducible rfl
    try simp only [Act.put, List.setIfInBounds_toArray, List.set_cons_zero, List.set_cons_succ]
    refine' wpAnyH_take (i := 1) (oi := _) (v := _) ?hia4 (by kernel_rfl) ?hfa4 ?hra4 ?hQa4 ?hya4 (hSa1) ?resta4
    case hia4 => (simp only [List.getElem?_toArray, List.getElem?_cons_zero, List.getElem?_cons_succ]; rfl)
    case hfa4 => kernel_rfl
    case hra4 => kernel_rfl
    case hQa4 => exact fun _ _ _ h => h
    case hya4 => refine Or.inl ⟨by rfl, ?_⟩; intro W hSw; go_simp; try with_reducible rfl
    try simp only [Act.put, List.setIfInBounds_toArray, List.set_cons_zero, List.set_cons_succ]
    refine' wpAnyH_take (i := 2) (oi := _) (v := _) ?hia5 (by kernel_rfl) ?hfa5 ?hra5 ?hQa5 ?hya5 (hSa1) ?resta5
    case hia5 => (simp only [List.getElem?_toArray, List.getElem?_cons_zero, List.getElem?_cons_succ]; rfl)
    case hfa5 => kernel_rfl
    case hra5 => kernel_rfl
    case hQa5 => exact fun _ _ _ h => h
    case hya5 => refine Or.inl ⟨by rfl, ?_⟩; intro W hSw; go_simp; try with_reducible rfl
    try simp only [Act.put, List.setIfInBounds_toArray, List.set_cons_zero, List.set_cons_succ]
    refine' wpAnyH_take (i := 3) (oi := _) (v := _) ?hia6 (by kernel_rfl) ?hfa6 ?hra6 ?hQa6 ?hya6 (hSa1) ?resta6
    case hia6 => (simp only [List.getElem?_toArray, List.getElem?_cons_zero, List.getElem?_cons_succ]; rfl)
    case hfa6 => kernel_rfl
    case hra6 => kernel_rfl
    case hQa6 => exact fun _ _ _ h => h
    case hya6 => refine Or.inl ⟨by rfl, ?_⟩; intro W hSw; go_simp; try with_reducible rfl
    try simp only [Act.put, List.setIfInBounds_toArray, List.set_cons_zero, List.set_cons_succ]
    refine' wpAnyH_take (i := 4) (oi := _) (v := _) ?hia7 (by kernel_rfl) ?hfa7 ?hra7 ?hQa7 ?hya7 (hSa1) ?resta7
    case hia7 => (simp only [List.getElem?_toArray, List.getElem?_cons_zero, List.getElem?_cons_succ]; rfl)
    case hfa7 => kernel_rfl
    case hra7 => kernel_rfl
    case hQa7 => exact fun _ _ _ h => h
    case hya7 => refine Or.inl ⟨by rfl, ?_⟩; intro W hSw; go_simp; try with_reducible rfl
    try simp only [Act.put, List.setIfInBounds_toArray, List.set_cons_zero, List.set_cons_succ]
    refine' wpAnyH_take (i := 5) (oi := _) (v := _) ?hia8 (by kernel_rfl) ?hfa8 ?hra8 ?hQa8 ?hya8 (hSa1) ?resta8
    case hia8 => (simp only [List.getElem?_toArray, List.getElem?_cons_zero, List.getElem?_cons_succ]; rfl)
    case hfa8 => kernel_rfl
    case hra8 => kernel_rfl
    case hQa8 => exact fun _ _ _ h => h
    case hya8 => refine Or.inl ⟨by rfl, ?_⟩; intro W hSw; go_simp; try with_reducible rfl
    try simp only [Act.put, List.setIfInBounds_toArray, List.set_cons_zero, List.set_cons_succ]
    refine' wpAnyH_take (i := 6) (oi := _) (v := _) ?hia9 (by kernel_rfl) ?hfa9 ?hra9 ?hQa9 ?hya9 (hSa1) ?resta9
    case hia9 => (simp only [List.getElem?_toArray, List.getElem?_cons_zero, List.getElem?_cons_succ]; rfl)
    case hfa9 => kernel_rfl
    case hra9 => kernel_rfl
    case hQa9 => exact fun _ _ _ h => h
    case hya9 => refine Or.inl ⟨by rfl, ?_⟩; intro W hSw; go_simp; try with_reducible rfl
    try simp only [Act.put, List.setIfInBounds_toArray, List.set_cons_zero, List.set_cons_succ]
    refine' wpAnyH_take (i := 7) (oi := _) (v := _) ?hia10 (by kernel_rfl) ?hfa10 ?hra10 ?hQa10 ?hya10 (hSa1) ?resta10
    case hia10 => (simp only [List.getElem?_toArray, List.getElem?_cons_zero, List.getElem?_cons_succ]; rfl)
    case hfa10 => kernel_rfl
    case hra10 => kernel_rfl
    case hQa10 => exact fun _ _ _ h => h
    case hya10 => refine Or.inl ⟨by rfl, ?_⟩; intro W hSw; go_simp; try with_reducible rfl
    try simp only [Act.put, List.setIfInBounds_toArray, List.set_cons_zero, List.set_cons_succ]
    refine wpAnyH_ready (rs := [8, 9]) (by kernel_rfl) (by simp) ?_
    refine' (AllReadyH.cons (o := _) ?hia11 (fun K hK => ?_) (AllReadyH.cons (o := _) ?hia12 (fun K hK => ?_) AllReadyH.nil))
    case hia11 => (simp only [List.getElem?_toArray, List.getElem?_cons_zero, List.getElem?_cons_succ]; rfl)
    case hia12 => (simp only [List.getElem?_toArray, List.getElem?_cons_zero, List.getElem?_cons_succ]; rfl)
    · skip
      go_simp
      go_at_call 39
      refine (C1.out Wa2 (below_on B2.out (Nat.le_refl _) hSa1)).mono ?_
      rintro e Wa15 ⟨hTa16, hba13⟩
      have hBa14 := below_on hSa1 (Nat.le_refl _) hba13
      rcases hTa16 with ⟨rfl, hs1⟩ | ⟨u, rfl, hu⟩
      · skip
        refine hK.out _ _ (hBa14) (fun _ => ?_)
        clear hK K
        try simp only [Act.put, List.setIfInBounds_toArray, List.set_cons_zero, List.set_cons_succ]
        refine wpAnyH_ready (rs := [9]) (by kernel_rfl) (by simp) ?_
        refine' (AllReadyH.cons (o := _) ?hia17 (fun K hK => ?_) AllReadyH.nil)
        case hia17 => (simp only [List.getElem?_toArray, List.getElem?_cons_zero, List.getElem?_cons_succ]; rfl)
        go_simp
        have hBa18 := Below.alloc hBa14 (Below.size hBa14) (.cells #[.int .u8 0, .int .u8 0, .int .u8 0, .int .u8 0, .int .u8 0, .int .u8 0, .int .u8 0, .int .u8 0, .int .u8 0, .int .u8 0, .int .u8 0, .int .u8 0, .int .u8 0, .int .u8 0, .int .u8 0, .int .u8 0, .int .u8 0, .int .u8 0, .int .u8 0, .int .u8 0, .int .u8 0, .int .u8 0, .int .u8 0, .int .u8 0, .int .u8 0, .int .u8 0, .int .u8 0, .int .u8 0, .int .u8 0, .int .u8 0, .int .u8 0, .int .u8 0, .int .u8 0, .int .u8 0, .int .u8 0, .int .u8 0, .int .u8 0, .int .u8 0, .int .u8 0, .int .u8 0, .int .u8 0, .int .u8 0, .int .u8 0, .int .u8 0, .int .u8 0, .int .u8 0, .int .u8 0, .int .u8 0, .int .u8 0, .int .u8 0, .int .u8 0, .int .u8 0, .int .u8 0, .int .u8 0, .int .u8 0, .int .u8 0, .int .u8 0, .int .u8 0, .int .u8 0, .int .u8 0, .int .u8 0, .int .u8 0, .int .u8 0, .int .u8 0] 58)
        have hZa20 := (by have hh := BArr.new Wa15 58 zero64; rw [HE0.out] at hh; exact hh)
        have hgea21 := (show w1.heap.size ≤ Wa15.heap.size from Below.size hBa14)
        have hba22 := below_alloc Wa15 (.cells #[.int .u8 0, .int .u8 0, .int .u8 0, .int .u8 0, .int .u8 0, .int .u8 0, .int .u8 0, .int .u8 0, .int .u8 0, .int .u8 0, .int .u8 0, .int .u8 0, .int .u8 0, .int .u8 0, .int .u8 0, .int .u8 0, .int .u8 0, .int .u8 0, .int .u8 0, .int .u8 0, .int .u8 0, .int .u8 0, .int .u8 0, .int .u8 0, .int .u8 0, .int .u8 0, .int .u8 0, .int .u8 0, .int .u8 0, .int .u8 0, .int .u8 0, .int .u8 0, .int .u8 0, .int .u8 0, .int .u8 0, .int .u8 0, .int .u8 0, .int .u8 0, .int .u8 0, .int .u8 0, .int .u8 0, .int .u8 0, .int .u8 0, .int .u8 0, .int .u8 0, .int .u8 0, .int .u8 0, .int .u8 0, .int .u8 0, .int .u8 0, .int .u8 0, .int .u8 0, .int .u8 0, .int .u8 0, .int .u8 0, .int .u8 0, .int .u8 0, .int .u8 0, .int .u8 0, .int .u8 0, .int .u8 0, .int .u8 0, .int .u8 0, .int .u8 0] 58)
        clear hba22
        refine hK.out _ _ (hBa18) (fun _ => ?_)
        clear hK K
        try simp only [Act.put, List.setIfInBounds_toArray, List.set_cons_zero, List.set_cons_succ]
        generalize (Wa15.alloc (.cells #[.int .u8 0, .int .u8 0, .int .u8 0, .int .u8 0, .int .u8 0, .int .u8 0, .int .u8 0, .int .u8 0, .int .u8 0, .int .u8 0, .int .u8 0, .int .u8 0, .int .u8 0, .int .u8 0, .int .u8 0, .int .u8 0, .int .u8 0, .int .u8 0, .int .u8 0, .int .u8 0, .int .u8 0, .int .u8 0, .int .u8 0, .int .u8 0, .int .u8 0, .int .u8 0, .int .u8 0, .int .u8 0, .int .u8 0, .int .u8 0, .int .u8 0, .int .u8 0, .int .u8 0, .int .u8 0, .int .u8 0, .int .u8 0, .int .u8 0, .int .u8 0, .int .u8 0, .int .u8 0, .int .u8 0, .int .u8 0, .int .u8 0, .int .u8 0, .int .u8 0, .int .u8 0, .int .u8 0, .int .u8 0, .int .u8 0, .int .u8 0, .int .u8 0, .int .u8 0, .int .u8 0, .int .u8 0, .int .u8 0, .int .u8 0, .int .u8 0, .int .u8 0, .int .u8 0, .int .u8 0, .int .u8 0, .int .u8 0, .int .u8 0, .int .u8 0] 58)) = Wa19 at hBa18 hZa20 hgea21 ⊢
        refine wpAnyH_ready (rs := [10]) (by kernel_rfl) (by simp) ?_
        refine' (AllReadyH.cons (o := _) ?hia23 (fun K hK => ?_) AllReadyH.nil)
        case hia23 => (simp only [List.getElem?_toArray, List.getElem?_cons_zero, List.getElem?_cons_succ]; rfl)
        rw [if_pos (by rfl)]
        refine step_store_pairC (.tmp 11) (.tmp 38) rfl (Wa15.heap.size) rfl zero64 T1 (by rfl) R1l hZa20 rfl ?_
        have hZa24 := hZa20.setRow T1
        have hBa25 := below_setRow hBa18 hgea21 (bvs T1).toArray
        refine hK.out _ _ hBa25 (fun _ => ?_)
        clear hK K
        try simp only [Act.put]
        generalize (Wa19.setRow (Wa15.heap.size) (bvs T1).toArray) = Wa26 at hZa24 hBa25 ⊢
        refine wpAnyH_done (by kernel_rfl) ?_ _
        go_wp2_with fail
        go_meet
        case rel => exact ⟨_, rfl, Lib.hid ⟨hZa24, hs1, hgea21, hBa25⟩⟩
      · skip
        go_wp2
        exact ⟨rfl, .inr ⟨u, rfl, hu⟩, below_on H2.out.1 (Nat.le_of_eq HG.out.symm) (hBa14)⟩
    · skip
      go_simp
      have hBa27 := Below.alloc hSa1 (Below.size hSa1) (.cells #[.int .u8 0, .int .u8 0, .int .u8 0, .int .u8 0, .int .u8 0, .int .u8 0, .int .u8 0, .int .u8 0, .int .u8 0, .int .u8 0, .int .u8 0, .int .u8 0, .int .u8 0, .int .u8 0, .int .u8 0, .int .u8 0, .int .u8 0, .int .u8 0, .int .u8 0, .int .u8 0, .int .u8 0, .int .u8 0, .int .u8 0, .int .u8 0, .int .u8 0, .int .u8 0, .int .u8 0, .int .u8 0, .int .u8 0, .int .u8 0, .int .u8 0, .int .u8 0, .int .u8 0, .int .u8 0, .int .u8 0, .int .u8 0, .int .u8 0, .int .u8 0, .int .u8 0, .int .u8 0, .int .u8 0, .int .u8 0, .int .u8 0, .int .u8 0, .int .u8 0, .int .u8 0, .int .u8 0, .int .u8 0, .int .u8 0, .int .u8 0, .int .u8 0, .int .u8 0, .int .u8 0, .int .u8 0, .int .u8 0, .int .u8 0, .int .u8 0, .int .u8 0, .int .u8 0, .int .u8 0, .int .u8 0, .int .u8 0, .int .u8 0, .int .u8 0] 58)
      have hZa29 := (by have hh := BArr.new Wa2 58 zero64; rw [HE0.out] at hh; exact hh)
      have hgea30 := (show w1.heap.size ≤ Wa2.heap.size from Below.size hSa1)
      have hba31 := below_alloc Wa2 (.cells #[.int .u8 0, .int .u8 0, .int .u8 0, .int .u8 0, .int .u8 0, .int .u8 0, .int .u8 0, .int .u8 0, .int .u8 0, .int .u8 0, .int .u8 0, .int .u8 0, .int .u8 0, .int .u8 0, .int .u8 0, .int .u8 0, .int .u8 0, .int .u8 0, .int .u8 0, .int .u8 0, .int .u8 0, .int .u8 0, .int .u8 0, .int .u8 0, .int .u8 0, .int .u8 0, .int .u8 0, .int .u8 0, .int .u8 0, .int .u8 0, .int .u8 0, .int .u8 0, .int .u8 0, .int .u8 0, .int .u8 0, .int .u8 0, .int .u8 0, .int .u8 0, .int .u8 0, .int .u8 0, .int .u8 0, .int .u8 0, .int .u8 0, .int .u8 0, .int .u8 0, .int .u8 0, .int .u8 0, .int .u8 0, .int .u8 0, .int .u8 0, .int .u8 0, .int .u8 0, .int .u8 0, .int .u8 0, .int .u8 0, .int .u8 0, .int .u8 0, .int .u8 0, .int .u8 0, .int .u8 0, .int .u8 0, .int .u8 0, .int .u8 0, .int .u8 0] 58)
      clear hba31
      refine hK.out _ _ (hBa27) (fun _ => ?_)
      clear hK K
      try simp only [Act.put, List.setIfInBounds_toArray, List.set_cons_zero, List.set_cons_succ]
      generalize (Wa2.alloc (.cells #[.int .u8 0, .int .u8 0, .int .u8 0, .int .u8 0, .int .u8 0, .int .u8 0, .int .u8 0, .int .u8 0, .int .u8 0, .int .u8 0, .int .u8 0, .int .u8 0, .int .u8 0, .int .u8 0, .int .u8 0, .int .u8 0, .int .u8 0, .int .u8 0, .int .u8 0, .int .u8 0, .int .u8 0, .int .u8 0, .int .u8 0, .int .u8 0, .int .u8 0, .int .u8 0, .int .u8 0, .int .u8 0, .int .u8 0, .int .u8 0, .int .u8 0, .int .u8 0, .int .u8 0, .int .u8 0, .int .u8 0, .int .u8 0, .int .u8 0, .int .u8 0, .int .u8 0, .int .u8 0, .int .u8 0, .int .u8 0, .int .u8 0, .int .u8 0, .int .u8 0, .int .u8 0, .int .u8 0, .int .u8 0, .int .u8 0, .int .u8 0, .int .u8 0, .int .u8 0, .int .u8 0, .int .u8 0, .int .u8 0, .int .u8 0, .int .u8 0, .int .u8 0, .int .u8 0, .int .u8 0, .int .u8 0, .int .u8 0, .int .u8 0, .int .u8 0] 58)) = Wa28 at hBa27 hZa29 hgea30 ⊢
      refine wpAnyH_ready (rs := [8]) (by kernel_rfl) (by simp) ?_
      refine' (AllReadyH.cons (o := _) ?hia32 (fun K hK => ?_) AllReadyH.nil)
      case hia32 => (simp only [List.getElem?_toArray, List.getElem?_cons_zero, List.getElem?_cons_succ]; rfl)
      go_simp
      go_at_call 39
      refine (C1.out Wa28 (below_on B2.out (Nat.le_refl _) hBa27)).mono ?_
      rintro e Wa35 ⟨hTa36, hba33⟩
      have hBa34 := below_on hBa27 (Nat.le_refl _) hba33
      rcases hTa36 with ⟨rfl, hs1⟩ | ⟨u, rfl, hu⟩
      · skip
        have hZa37 := hZa29.below hba33
        have hgea38 := hgea30
        refine hK.out _ _ (hBa34) (fun _ => ?_)
        clear hK K
        try simp only [Act.put, List.setIfInBounds_toArray, List.set_cons_zero, List.set_cons_succ]
        refine wpAnyH_ready (rs := [10]) (by kernel_rfl) (by simp) ?_
        refine' (AllReadyH.cons (o := _) ?hia39 (fun K hK => ?_) AllReadyH.nil)
        case hia39 => (simp only [List.getElem?_toArray, List.getElem?_cons_zero, List.getElem?_cons_succ]; rfl)
        rw [if_pos (by rfl)]
        refine step_store_pairC (.tmp 11) (.tmp 38) rfl (Wa2.heap.size) rfl zero64 T1 (by rfl) R1l hZa37 rfl ?_
        have hZa40 := hZa37.setRow T1
        have hBa41 := below_setRow hBa34 hgea38 (bvs T1).toArray
        refine hK.out _ _ hBa41 (fun _ => ?_)
        clear hK K
        try simp only [Act.put]
        generalize (Wa35.setRow (Wa2.heap.size) (bvs T1).toArray) = Wa42 at hZa40 hBa41 ⊢
        refine wpAnyH_done (by kernel_rfl) ?_ _
        go_wp2_with fail
        go_meet
        case rel => exact ⟨_, rfl, Lib.hid ⟨hZa40, hs1, hgea38, hBa41⟩⟩
      · skip
        go_wp2
        exact ⟨rfl, .inr ⟨u, rfl, hu⟩, below_on H2.out.1 (Nat.le_of_eq HG.out.symm) (hBa34)⟩
  case rest =>
    obtain ⟨p, rfl, HR⟩ := hcut
    have hs1 := HR.out.2.1
    have B4 := Lib.hid (below_on B2.out (Nat.le_refl _) HR.out.2.2.2)
    have pg : ¬ (p = g) := by have h1 := HR.out.2.2.1; have h2 := H2.out.2.2; omega
    have HP := Lib.hid (fun (W : World) (hW : But (· = g) wc W) => show BArr W p 58 T1 from but_barr hW HR.out.1 pg)
    have HZA := Lib.hid (fun (W : World) (hW : But (· = g) wc W) => show At W (pd.add ((q - 1) * 32)) Z from but_at hW (HAZ.out wc HR.out.2.2.2) (by intro e; rw [block_add] at e; have e' : pd.block = g := e; omega))
    have HS1 := Lib.hid hs1
    clear pg hs1
    go_upto_region 6 with fail
    have hSb1 : Below wc.heap.size wc wc.drew := (Below.refl _ _).drew
    have hresb3 := (H2.out.2.1.below HR.out.2.2.2).below hSb1
    refine wp_region_held_drew (S := fun W => But (· = g) wc W) (by kernel_rfl) (But.of_below hSb1) (fun _ => ?_)
    change wpAnyH _ _ _ _ _ _ _ _ wc.drew
    generalize wc.drew = Wb2 at hSb1 hresb3 ⊢
    refine' wpAnyH_take (i := 0) (oi := _) (v := sv T1) ?hib4 (by kernel_rfl) ?hfb4 ?hrb4 ?hQb4 ?hyb4 (But.of_below hSb1) ?restb4
    case hib4 => (simp only [List.getElem?_toArray, List.getElem?_cons_zero]; rfl)
    case hfb4 => kernel_rfl
    case hrb4 => kernel_rfl
    case hQb4 => exact fun _ _ _ h => h
    case hyb4 => refine Or.inl ⟨by rfl, ?_⟩; intro W hSw; exact load_pair_op (.tmp 11) (by rfl) (by rfl) R1l (HP.out W hSw)
    try simp only [Act.put, List.setIfInBounds_toArray, List.set_cons_zero, List.set_cons_succ]
    refine' wpAnyH_take (i := 1) (oi := _) (v := _) ?hib5 (by kernel_rfl) ?hfb5 ?hrb5 ?hQb5 ?hyb5 (But.of_below hSb1) ?restb5
    case hib5 => (simp only [List.getElem?_toArray, List.getElem?_cons_zero, List.getElem?_cons_succ]; rfl)
    case hfb5 => kernel_rfl
    case hrb5 => kernel_rfl
    case hQb5 => exact fun _ _ _ h => h
    case hyb5 => refine Or.inl ⟨by rfl, ?_⟩; intro W hSw; go_simp; try with_reducible rfl
    try simp only [Act.put, List.setIfInBounds_toArray, List.set_cons_zero, List.set_cons_succ]
    refine' wpAnyH_take (i := 2) (oi := _) (v := _) ?hib6 (by kernel_rfl) ?hfb6 ?hrb6 ?hQb6 ?hyb6 (But.of_below hSb1) ?restb6
    case hib6 => (simp only [List.getElem?_toArray, List.getElem?_cons_zero, List.getElem?_cons_succ]; rfl)
    case hfb6 => kernel_rfl
    case hrb6 => kernel_rfl
    case hQb6 => exact fun _ _ _ h => h
    case hyb6 => refine Or.inl ⟨by rfl, ?_⟩; intro W hSw; go_simp; try with_reducible rfl
    try simp only [Act.put, List.setIfInBounds_toArray, List.set_cons_zero, List.set_cons_succ]
    refine' wpAnyH_take (i := 3) (oi := _) (v := _) ?hib7 (by kernel_rfl) ?hfb7 ?hrb7 ?hQb7 ?hyb7 (But.of_below hSb1) ?restb7
    case hib7 => (simp only [List.getElem?_toArray, List.getElem?_cons_zero, List.getElem?_cons_succ]; rfl)
    case hfb7 => kernel_rfl
    case hrb7 => kernel_rfl
    case hQb7 => exact fun _ _ _ h => h
    case hyb7 => refine Or.inl ⟨by rfl, ?_⟩; intro W hSw; go_simp; try with_reducible rfl
    try simp only [Act.put, List.setIfInBounds_toArray, List.set_cons_zero, List.set_cons_succ]
    refine' wpAnyH_take (i := 5) (oi := _) (v := _) ?hib8 (by kernel_rfl) ?hfb8 ?hrb8 ?hQb8 ?hyb8 (But.of_below hSb1) ?restb8
    case hib8 => (simp only [List.getElem?_toArray, List.getElem?_cons_zero, List.getElem?_cons_succ]; rfl)
    case hfb8 => kernel_rfl
    case hrb8 => kernel_rfl
    case hQb8 => exact fun _ _ _ h => h
    case hyb8 => refine Or.inl ⟨by rfl, ?_⟩; intro W hSw; go_simp; try with_reducible rfl
    try simp only [Act.put, List.setIfInBounds_toArray, List.set_cons_zero, List.set_cons_succ]
    refine' wpAnyH_take (i := 6) (oi := _) (v := _) ?hib9 (by kernel_rfl) ?hfb9 ?hrb9 ?hQb9 ?hyb9 (But.of_below hSb1) ?restb9
    case hib9 => (simp only [List.getElem?_toArray, List.getElem?_cons_zero, List.getElem?_cons_succ]; rfl)
    case hfb9 => kernel_rfl
    case hrb9 => kernel_rfl
    case hQb9 => exact fun _ _ _ h => h
    case hyb9 => refine Or.inl ⟨by rfl, ?_⟩; intro W hSw; go_simp; try with_reducible rfl
    try simp only [Act.put, List.setIfInBounds_toArray, List.set_cons_zero, List.set_cons_succ]
    refine' wpAnyH_take (i := 7) (oi := _) (v := _) ?hib10 (by kernel_rfl) ?hfb10 ?hrb10 ?hQb10 ?hyb10 (But.of_below hSb1) ?restb10
    case hib10 => (simp only [List.getElem?_toArray, List.getElem?_cons_zero, List.getElem?_cons_succ]; rfl)
    case hfb10 => kernel_rfl
    case hrb10 => kernel_rfl
    case hQb10 => exact fun _ _ _ h => h
    case hyb10 => refine Or.inl ⟨by rfl, ?_⟩; intro W hSw; go_simp; try with_reducible rfl
    try simp only [Act.put, List.setIfInBounds_toArray, List.set_cons_zero, List.set_cons_succ]
    refine' wpAnyH_take (i := 8) (oi := _) (v := sv Z) ?hib11 (by kernel_rfl) ?hfb11 ?hrb11 ?hQb11 ?hyb11 (But.of_below hSb1) ?restb11
    case hib11 => (simp only [List.getElem?_toArray, List.getElem?_cons_zero, List.getElem?_cons_succ]; rfl)
    case hfb11 => kernel_rfl
    case hrb11 => kernel_rfl
    case hQb11 => exact fun _ _ _ h => h
    case hyb11 => refine Or.inl ⟨by rfl, ?_⟩; intro W hSw; exact load_sum_op (.tmp 46) (by rfl) (by rfl) Zl (HZA.out W hSw)
    try simp only [Act.put, List.setIfInBounds_toArray, List.set_cons_zero, List.set_cons_succ]
    refine wpAnyH_ready (rs := [4]) (by kernel_rfl) (by simp) ?_
    refine' (AllReadyH.cons (o := _) ?hib12 (fun K hK => ?_) AllReadyH.nil)
    case hib12 => (simp only [List.getElem?_toArray, List.getElem?_cons_zero, List.getElem?_cons_succ]; rfl)
    go_simp
    go_at_call 30
    refine (CRT.out Wb2 (below_on B4.out (Nat.le_refl _) hSb1)).mono ?_
    rintro e Wb15 ⟨rfl, hbb13⟩
    have hBb14 := below_on hSb1 (Nat.le_refl _) hbb13
    have hresb16 := hresb3.below hbb13
    refine hK.out _ _ (But.of_below hBb14) (fun _ => ?_)
    clear hK K
    try simp only [Act.put, List.setIfInBounds_toArray, List.set_cons_zero, List.set_cons_succ]
    refine' wpAnyH_take (i := 9) (oi := _) (v := sv (T2 ++ Z)) ?hib17 (by kernel_rfl) ?hfb17 ?hrb17 ?hQb17 ?hyb17 (But.of_below hBb14) ?restb17
    case hib17 => (simp only [List.getElem?_toArray, List.getElem?_cons_zero, List.getElem?_cons_succ]; rfl)
    case hfb17 => kernel_rfl
    case hrb17 => kernel_rfl
    case hQb17 => exact fun _ _ _ h => h
    case hyb17 => exact yields_build_pairC (by rfl) (.tmp 43) (.tmp 47) (by rfl) T2 Z (by rfl) (by rfl) rl2 Zl
    try simp only [Act.put, List.setIfInBounds_toArray, List.set_cons_zero, List.set_cons_succ]
    refine wpAnyH_ready (rs := [10]) (by kernel_rfl) (by simp) ?_
    refine' (AllReadyH.cons (o := _) ?hib18 (fun K hK => ?_) AllReadyH.nil)
    case hib18 => (simp only [List.getElem?_toArray, List.getElem?_cons_zero, List.getElem?_cons_succ]; rfl)
    go_simp
    go_at_call 59
    refine (C3.out Wb15 (below_on B4.out (Nat.le_refl _) hBb14) HS1.out).mono ?_
    rintro e Wb21 ⟨hTb22, hbb19⟩
    have hBb20 := below_on hBb14 (Nat.le_refl _) hbb19
    rcases hTb22 with ⟨rfl, hs3⟩ | ⟨u, rfl, hu⟩
    · skip
      have hresb23 := hresb16.below hbb19
      refine hK.out _ _ (But.of_below hBb20) (fun _ => ?_)
      clear hK K
      try simp only [Act.put, List.setIfInBounds_toArray, List.set_cons_zero, List.set_cons_succ]
      refine wpAnyH_ready (rs := [11]) (by kernel_rfl) (by simp) ?_
      refine' (AllReadyH.cons (o := _) ?hib24 (fun K hK => ?_) AllReadyH.nil)
      case hib24 => (simp only [List.getElem?_toArray, List.getElem?_cons_zero, List.getElem?_cons_succ]; rfl)
      rw [if_pos (by rfl)]
      have hf := hresb23
      refine step_store_pairC (.tmp 8) (.tmp 49) rfl g rfl zero64 Q (by rfl) Ql hf rfl ?_
      have hz : Below g w (Wb21.setRow g (bvs Q).toArray) := below_setRow (by rw [← HG.out]; exact below_on B4.out (Nat.le_refl _) hBb20) (Nat.le_refl _) _
      refine hK.out _ _ (but_setRow (S := (· = g)) (But.of_below hBb20) rfl _) (fun _ => ?_)
      clear hK K
      try simp only [Act.put]
      have hf2 := hf.setRow Q
      generalize (Wb21.setRow g (bvs Q).toArray) = Wz at hz hf2 ⊢
      refine wpAnyH_done (by kernel_rfl) ?_ _
      go_wp2_with fail
      refine bodyPost_ret_by (results_cell_row (p := 8) (ty := 58) (by kernel_rfl) _ _ g 58 (bvs Q).toArray (0, 0) _ rfl hf2 Tryd.underlying58 rfl (by rw [List.size_toArray, bvs_length, Ql]; exact sizePairC)) rfl ?_
      exact ⟨.inl ⟨rfl, hs3⟩, hz⟩
    · skip
      go_wp2
      exact ⟨rfl, .inr ⟨u, rfl, hu⟩, by rw [← HG.out]; exact below_on B4.out (Nat.le_refl _) hBb20⟩

set_option maxRecDepth 100000 in
set_option maxHeartbeats 8000000 in
theorem dpath_high (E1 : Ent w (some A) n c R) (hB : Came w B m d b) (_ : m ≤ 20000) (hI : InS w P q ys) (hy : ∀ x ∈ ys, x < 256) (hqr : q ≤ r) (hq : q = dep at_ n) (hat : at_ < n) (hk : Knows w) (hks : Starts w) (h2n : 2 ≤ n) (hn6 : n ≤ 60000) (hside : ¬ at_ < cutN n)
    (ih : ∀ k, k < n → ∀ (w : World) (A : Addr) (P : Option Addr) (c q at_ : Nat) (R : List (List Nat)) (ys : List Nat), Ent w (some A) k c R → Came w B m d b → InS w P q ys → (∀ x ∈ ys, x < 256) → q ≤ r → q = dep at_ k → at_ < k → Knows w → Starts w →
      Calls Tryd.prog 39 #[.slice (some A) k c, .int .i64 (at_ : Int), .slice B m d, .slice P q r] w fun e w' => Told w.heap.size (sv (rtl R ++ leadF (nth ys) (leafL b) at_ k 0)) (rtl R = leadF (nth ys) (leafL b) at_ k 0 → R[at_]? = some b) e w' ∧ Below w.heap.size w w') :
    Calls Tryd.prog 39 #[.slice (some A) n c, .int .i64 (at_ : Int), .slice B m d, .slice P q r] w fun e w' => Told w.heap.size (sv (rtl R ++ leadF (nth ys) (leafL b) at_ n 0)) (rtl R = leadF (nth ys) (leafL b) at_ n 0 → R[at_]? = some b) e w' ∧ Below w.heap.size w w' := by
  obtain ⟨g, hg⟩ : ∃ g, w.heap.size = g := ⟨_, rfl⟩
  have f1 := BArr.new w 58 zero64
  have b1 := below_alloc w (.cells (bvs zero64).toArray 58)
  have e0 : (bvs zero64).toArray = #[.int .u8 0, .int .u8 0, .int .u8 0, .int .u8 0, .int .u8 0, .int .u8 0, .int .u8 0, .int .u8 0, .int .u8 0, .int .u8 0, .int .u8 0, .int .u8 0, .int .u8 0, .int .u8 0, .int .u8 0, .int .u8 0, .int .u8 0, .int .u8 0, .int .u8 0, .int .u8 0, .int .u8 0, .int .u8 0, .int .u8 0, .int .u8 0, .int .u8 0, .int .u8 0, .int .u8 0, .int .u8 0, .int .u8 0, .int .u8 0, .int .u8 0, .int .u8 0, .int .u8 0, .int .u8 0, .int .u8 0, .int .u8 0, .int .u8 0, .int .u8 0, .int .u8 0, .int .u8 0, .int .u8 0, .int .u8 0, .int .u8 0, .int .u8 0, .int .u8 0, .int .u8 0, .int .u8 0, .int .u8 0, .int .u8 0, .int .u8 0, .int .u8 0, .int .u8 0, .int .u8 0, .int .u8 0, .int .u8 0, .int .u8 0, .int .u8 0, .int .u8 0, .int .u8 0, .int .u8 0, .int .u8 0, .int .u8 0, .int .u8 0, .int .u8 0] := rfl
  rw [e0] at f1 b1
  obtain ⟨w1, hw1⟩ : ∃ x, x = w.alloc (.cells #[.int .u8 0, .int .u8 0, .int .u8 0, .int .u8 0, .int .u8 0, .int .u8 0, .int .u8 0, .int .u8 0, .int .u8 0, .int .u8 0, .int .u8 0, .int .u8 0, .int .u8 0, .int .u8 0, .int .u8 0, .int .u8 0, .int .u8 0, .int .u8 0, .int .u8 0, .int .u8 0, .int .u8 0, .int .u8 0, .int .u8 0, .int .u8 0, .int .u8 0, .int .u8 0, .int .u8 0, .int .u8 0, .int .u8 0, .int .u8 0, .int .u8 0, .int .u8 0, .int .u8 0, .int .u8 0, .int .u8 0, .int .u8 0, .int .u8 0, .int .u8 0, .int .u8 0, .int .u8 0, .int .u8 0, .int .u8 0, .int .u8 0, .int .u8 0, .int .u8 0, .int .u8 0, .int .u8 0, .int .u8 0, .int .u8 0, .int .u8 0, .int .u8 0, .int .u8 0, .int .u8 0, .int .u8 0, .int .u8 0, .int .u8 0, .int .u8 0, .int .u8 0, .int .u8 0, .int .u8 0, .int .u8 0, .int .u8 0, .int .u8 0, .int .u8 0] 58) := ⟨_, rfl⟩
  rw [← hw1] at f1 b1
  have s1 : w1.heap.size = g + 1 := by rw [hw1]; simp [hg]
  have HW := Lib.hid hw1
  have HG := Lib.hid hg
  have HE0 := Lib.hid e0
  have b01 := b1
  rw [hg] at f1 b1
  have H2 := Lib.hid (And.intro b1 (And.intro f1 s1))
  obtain ⟨Q, hQ⟩ : ∃ Q, rtl R ++ leadF (nth ys) (leafL b) at_ n 0 = Q := ⟨_, rfl⟩
  have hal := hI.len
  have Ql : Q.length = 64 := by
    rw [← hQ, List.length_append, rtl_length, leadF_length _ _ (leafL_length _)]
  have hcl := cutN_lt h2n
  have hcp := cutN_pos n
  have hcR := rtl_cut E1.len h2n
  have hdp := hq.trans (dep_high h2n hside)
  have hld := leadF_high (nth ys) (leafL b) h2n hside 0
  obtain ⟨k, hk0⟩ : ∃ k, cutN n = k := ⟨_, rfl⟩
  have CL := Lib.hid (show Calls Tryd.prog 58 #[.int .i64 (n : Int)] w1 fun e w' => e = .returned (.int .i64 (k : Int)) ∧ w' = w1 from (cleft_any n w1 h2n (by omega)).mono fun e w' ⟨h1, h2⟩ => ⟨by rw [h1, hk0], h2⟩)
  rw [hk0] at hcl hcp hcR hdp hld hside
  have hq1 : 1 ≤ q := by omega
  have hqb : q ≤ 64 := by rw [hq]; exact dep_64 hat (by omega)
  obtain ⟨pd, rfl⟩ := hI.some_ (by omega)
  obtain ⟨Z, hZ⟩ : ∃ Z, nth ys (q - 1) = Z := ⟨_, rfl⟩
  have Zl : Z.length = 32 := by rw [← hZ]; exact nth_length hI.len (by omega)
  have Zb : ∀ x ∈ Z, x < 256 := by rw [← hZ]; exact nth_lt hy _
  obtain ⟨pd', epd, _, hatZ⟩ := hI.at_ (k := q - 1) (by omega)
  cases epd
  rw [hZ] at hatZ
  obtain ⟨L, hL⟩ : ∃ L, leadF (nth ys) (leafL b) (at_ - k) (n - k) 0 = L := ⟨_, rfl⟩
  have Ll : L.length = 32 := by rw [← hL]; exact leadF_length _ _ (leafL_length _) _ _ _
  have Lb : ∀ x ∈ L, x < 256 := by rw [← hL]; exact leadF_lt _ _ (leafL_lt _) _ _ _
  obtain ⟨R1, hR1⟩ : ∃ x, R.drop k = x := ⟨_, rfl⟩
  obtain ⟨R2, hR2⟩ : ∃ x, R.take k = x := ⟨_, rfl⟩
  have hfin : R1[(at_ - k)]? = some b → R[at_]? = some b := by rw [← hR1]; exact fun e => by have := e; rw [List.getElem?_drop, show k + (at_ - k) = at_ by omega] at this; exact this
  have hnl : rtl R = nodeL (rtl R2) (rtl R1) := by rw [← hR1, ← hR2]; exact hcR
  have hnr : leadF (nth ys) (leafL b) at_ n 0 = nodeL Z L := by rw [hld, hL, Nat.zero_add, show dep (at_ - k) (n - k) = q - 1 by omega, hZ]
  have C1 := Lib.hid (fun (W : World) (hW : Below w.heap.size w W) => show Calls Tryd.prog 39 #[(.slice (some (A.add k)) (n - k) (c - k)), .int .i64 ((at_ - k : Nat) : Int), .slice B m d, .slice (some pd) (q - 1) r] W fun e w' => Told g (sv (rtl R1 ++ L)) (rtl R1 = L → R1[(at_ - k)]? = some b) e w' ∧ Below W.heap.size W w' from by
    have hcg : leadF (nth (ys.take (32 * (q - 1)))) (leafL b) (at_ - k) (n - k) 0 = L := by
      rw [← hL]
      exact leadF_congr _ _ _ _ _ _ fun j hj => nth_take (by omega)
    have := ih (n - k) (by omega) W _ (some pd) _ (q - 1) (at_ - k) _ (ys.take (32 * (q - 1))) ((E1.below hW).drop (k := k)) (hB.below hW) ((hI.below hW).take (by omega)) (fun x hx => hy x (List.mem_of_mem_take hx)) (by omega) (by omega) (by omega) (hk.below hW) (hks.below hW)
    rw [hR1, hcg] at this
    exact this.mono fun e w' ⟨h, hb'⟩ => ⟨h.low (by have := hW.size; omega), hb'⟩)
  have CRT := Lib.hid (fun (W : World) (hW : Below w.heap.size w W) => show Calls Tryd.prog 30 #[(.slice (some A) k c)] W fun e w' => e = .returned (sv (rtl R2)) ∧ Below W.heap.size W w' from by
    rw [← hR2]; exact croot_any ((E1.below hW).take (k := k) (by omega)) (by omega) (hk.below hW) (hks.below hW))
  have C3 := Lib.hid (fun (W : World) (hW : Below w.heap.size w W) (h1 : rtl R1 = L → R1[(at_ - k)]? = some b) => show Calls Tryd.prog 59 #[sv (rtl R2 ++ Z), sv (rtl R1 ++ L)] W fun e w' => Told g (sv Q) (rtl R = leadF (nth ys) (leafL b) at_ n 0 → R[at_]? = some b) e w' ∧ Below W.heap.size W w' from
    (cnode_any (w := W) (rtl_length _) Zl (rtl_length _) Ll (rtl_lt _) Zb (rtl_lt _) Lb (hk.below hW) (hks.below hW)).mono fun e w' ⟨h, hb'⟩ => ⟨(h.low (by have := hW.size; omega)).imp (by rw [← hQ, hnl, hnr]) (fun h => by rw [hnl, hnr]; intro e; exact hfin (h1 (h e).2)), hb'⟩)
  have HAZ := Lib.hid (fun (W : World) (hW : Below w1.heap.size w1 W) => show At W (pd.add ((q - 1) * 32)) Z from (hatZ.below b01).below hW)
  have hpb : pd.block < g := by
    have := hatZ 0 (Z.getD 0 0) (by rw [List.getD_eq_getElem?_getD, List.getElem?_eq_getElem (by omega)]; rfl)
    have h1 := World.block_lt_of_cell? w _ this
    rw [block_add, block_add, hg] at h1
    exact h1
  have t1 := fun W => run_takeR (A := some A) (n := n) (c := c) (k := k) (by omega) E1.cap (fun e => by cases e) W
  have t2 := fun W => run_dropR (ad := A) (n := n) (c := c) (k := k) hcl E1.cap W
  have t3 := fun W => run_take_sums (ad := pd) (n := q) (c := r) (k := q - 1) (by omega) hqr W
  have hn1 : ((n : Int) == 1) = false := by simp; omega
  have hq0 : (q : Int) - 1 = ((q - 1 : Nat) : Int) := by omega
  have hq2 : ((q - 1 : Nat) : Int) < (q : Int) := by omega
  have hsd : ¬ ((at_ : Int) < (k : Int)) := by omega
  have HAK := Lib.hid (show IntKind.i64.wrap ((at_ : Int) - (k : Int)) = ((at_ - k : Nat) : Int) by rw [IntKind.wrap_i64]; omega)
  have B2 := Lib.hid b01
  have R1l : (rtl R1 ++ L).length = 64 := by rw [List.length_append, rtl_length, Ll]
  have rl2 := rtl_length R2
  have HR1 := Lib.hid (And.intro hR1 hR2)
  obtain ⟨T1, hT1⟩ : ∃ x, rtl R1 ++ L = x := ⟨_, rfl⟩
  obtain ⟨T2, hT2⟩ : ∃ x, rtl R2 = x := ⟨_, rfl⟩
  rw [hT1] at C1 C3 R1l
  rw [hT2] at CRT C3 rl2
  rw [hg, hQ]
  clear e0 hw1 hg hQ hk hks E1 b01 f1 b1 s1 hal hI hy hB hq ih hcR hdp hld hfin hnl hnr hR1 hR2 hL hZ hatZ hk0 hT1 hT2 h2n hn6 hside hqr
  go_enter Tryd.func39, Tryd.ntmps39
  go_upto_region 1 with fail
  rw [← HW.out]
  rw [HG.out]
  go_upto_region 3 with fail
  go_wp2_with fail
  refine CL.out.mono ?_
  rintro e w' ⟨rfl, e1⟩
  obtain rfl := e1.symm
  clear e1 CL
  go_upto_region 7 with fail
  clear hcl hcp hn1
  go_cut [12] from 29 to 60 (fun s1 wx => ∃ p, s1 = .pointer (some ⟨p, 0, none⟩) ∧ Hid (BArr wx p 58 T1 ∧ (rtl R1 = L → R1[(at_ - k)]? = some b) ∧ w1.heap.size ≤ p ∧ Below w1.heap.size w1 wx))
  case first =>
    have hSa1 : Below w1.heap.size w1 w1.drew := (Below.refl _ _).drew
    refine wp_region_held_drew (S := fun W => Below w1.heap.size w1 W) (by kernel_rfl) (hSa1) (fun _ => ?_)
    change wpAnyH _ _ _ _ _ _ _ _ w1.drew
    generalize w1.drew = Wa2 at hSa1 ⊢
    refine' wpAnyH_take (i := 0) (oi := _) (v := _) ?hia3 (by kernel_rfl) ?hfa3 ?hra3 ?hQa3 ?hya3 (hSa1) ?resta3
    case hia3 => (simp only [List.getElem?_toArray, List.getElem?_cons_zero]; rfl)
    case hfa3 => kernel_rfl
    case hra3 => kernel_rfl
    case hQa3 => exact fun _ _ _ h => h
    case hya3 => refine Or.inl ⟨by rfl, ?_⟩; intro W hSw; go_simp; try with_reducible rfl
    try simp only [Act.put, List.setIfInBounds_toArray, List.set_cons_zero, List.set_cons_succ]
    refine' wpAnyH_take (i := 1) (oi := _) (v := _) ?hia4 (by kernel_rfl) ?hfa4 ?hra4 ?hQa4 ?hya4 (hSa1) ?resta4
    case hia4 => (simp only [List.getElem?_toArray, List.getElem?_cons_zero, List.getElem?_cons_succ]; rfl)
    case hfa4 => kernel_rfl
    case hra4 => kernel_rfl
    case hQa4 => exact fun _ _ _ h => h
    case hya4 => refine Or.inl ⟨by rfl, ?_⟩; intro W hSw; go_simp; try with_reducible rfl
    try simp only [Act.put, List.setIfInBounds_toArray, List.set_cons_zero, List.set_cons_succ]
    refine' wpAnyH_take (i := 2) (oi := _) (v := _) ?hia5 (by kernel_rfl) ?hfa5 ?hra5 ?hQa5 ?hya5 (hSa1) ?resta5
    case hia5 => (simp only [List.getElem?_toArray, List.getElem?_cons_zero, List.getElem?_cons_succ]; rfl)
    case hfa5 => kernel_rfl
    case hra5 => kernel_rfl
    case hQa5 => exact fun _ _ _ h => h
    case hya5 => refine Or.inl ⟨by rfl, ?_⟩; intro W hSw; go_simp; try with_reducible rfl
    try simp only [Act.put, List.setIfInBounds_toArray, List.set_cons_zero, List.set_cons_succ]
    refine' wpAnyH_take (i := 3) (oi := _) (v := _) ?hia6 (by kernel_rfl) ?hfa6 ?hra6 ?hQa6 ?hya6 (hSa1) ?resta6
    case hia6 => (simp only [List.getElem?_toArray, List.getElem?_cons_zero, List.getElem?_cons_succ]; rfl)
    case hfa6 => kernel_rfl
    case hra6 => kernel_rfl
    case hQa6 => exact fun _ _ _ h => h
    case hya6 => refine Or.inl ⟨by rfl, ?_⟩; intro W hSw; go_simp; try with_reducible rfl
    try simp only [Act.put, List.setIfInBounds_toArray, List.set_cons_zero, List.set_cons_succ]
    refine' wpAnyH_take (i := 4) (oi := _) (v := _) ?hia7 (by kernel_rfl) ?hfa7 ?hra7 ?hQa7 ?hya7 (hSa1) ?resta7
    case hia7 => (simp only [List.getElem?_toArray, List.getElem?_cons_zero, List.getElem?_cons_succ]; rfl)
    case hfa7 => kernel_rfl
    case hra7 => kernel_rfl
    case hQa7 => exact fun _ _ _ h => h
    case hya7 => refine Or.inl ⟨by rfl, ?_⟩; intro W hSw; go_simp; try with_reducible rfl
    try simp only [Act.put, List.setIfInBounds_toArray, List.set_cons_zero, List.set_cons_succ]
    refine' wpAnyH_take (i := 5) (oi := _) (v := .int .i64 ((at_ - k : Nat) : Int)) ?hia8 (by kernel_rfl) ?hfa8 ?hra8 ?hQa8 ?hya8 (hSa1) ?resta8
    case hia8 => (simp only [List.getElem?_toArray, List.getElem?_cons_zero, List.getElem?_cons_succ]; rfl)
    case hfa8 => kernel_rfl
    case hra8 => kernel_rfl
    case hQa8 => exact fun _ _ _ h => h
    case hya8 => refine Or.inl ⟨by rfl, ?_⟩; intro W hSw; exact sub_op (.tmp 53) (.tmp 54) (by rfl) (by rfl) (by rfl) HAK.out
    try simp only [Act.put, List.setIfInBounds_toArray, List.set_cons_zero, List.set_cons_succ]
    refine' wpAnyH_take (i := 6) (oi := _) (v := _) ?hia9 (by kernel_rfl) ?hfa9 ?hra9 ?hQa9 ?hya9 (hSa1) ?resta9
    case hia9 => (simp only [List.getElem?_toArray, List.getElem?_cons_zero, List.getElem?_cons_succ]; rfl)
    case hfa9 => kernel_rfl
    case hra9 => kernel_rfl
    case hQa9 => exact fun _ _ _ h => h
    case hya9 => refine Or.inl ⟨by rfl, ?_⟩; intro W hSw; go_simp; try with_reducible rfl
    try simp only [Act.put, List.setIfInBounds_toArray, List.set_cons_zero, List.set_cons_succ]
    refine' wpAnyH_take (i := 7) (oi := _) (v := _) ?hia10 (by kernel_rfl) ?hfa10 ?hra10 ?hQa10 ?hya10 (hSa1) ?resta10
    case hia10 => (simp only [List.getElem?_toArray, List.getElem?_cons_zero, List.getElem?_cons_succ]; rfl)
    case hfa10 => kernel_rfl
    case hra10 => kernel_rfl
    case hQa10 => exact fun _ _ _ h => h
    case hya10 => refine Or.inl ⟨by rfl, ?_⟩; intro W hSw; go_simp; try with_reducible rfl
    try simp only [Act.put, List.setIfInBounds_toArray, List.set_cons_zero, List.set_cons_succ]
    refine' wpAnyH_take (i := 8) (oi := _) (v := _) ?hia11 (by kernel_rfl) ?hfa11 ?hra11 ?hQa11 ?hya11 (hSa1) ?resta11
    case hia11 => (simp only [List.getElem?_toArray, List.getElem?_cons_zero, List.getElem?_cons_succ]; rfl)
    case hfa11 => kernel_rfl
    case hra11 => kernel_rfl
    case hQa11 => exact fun _ _ _ h => h
    case hya11 => refine Or.inl ⟨by rfl, ?_⟩; intro W hSw; go_simp; try with_reducible rfl
    try simp only [Act.put, List.setIfInBounds_toArray, List.set_cons_zero, List.set_cons_succ]
    refine' wpAnyH_take (i := 9) (oi := _) (v := _) ?hia12 (by kernel_rfl) ?hfa12 ?hra12 ?hQa12 ?hya12 (hSa1) ?resta12
    case hia12 => (simp only [List.getElem?_toArray, List.getElem?_cons_zero, List.getElem?_cons_succ]; rfl)
    case hfa12 => kernel_rfl
    case hra12 => kernel_rfl
    case hQa12 => exact fun _ _ _ h => h
    case hya12 => refine Or.inl ⟨by rfl, ?_⟩; intro W hSw; go_simp; try with_reducible rfl
    try simp only [Act.put, List.setIfInBounds_toArray, List.set_cons_zero, List.set_cons_succ]
    refine wpAnyH_ready (rs := [10, 11]) (by kernel_rfl) (by simp) ?_
    refine' (AllReadyH.cons (o := _) ?hia13 (fun K hK => ?_) (AllReadyH.cons (o := _) ?hia14 (fun K hK => ?_) AllReadyH.nil))
    case hia13 => (simp only [List.getElem?_toArray, List.getElem?_cons_zero, List.getElem?_cons_succ]; rfl)
    case hia14 => (simp only [List.getElem?_toArray, List.getElem?_cons_zero, List.getElem?_cons_succ]; rfl)
    · skip
      go_simp
      go_at_call 39
      refine (C1.out Wa2 (below_on B2.out (Nat.le_refl _) hSa1)).mono ?_
      rintro e Wa17 ⟨hTa18, hba15⟩
      have hBa16 := below_on hSa1 (Nat.le_refl _) hba15
      rcases hTa18 with ⟨rfl, hs1⟩ | ⟨u, rfl, hu⟩
      · skip
        refine hK.out _ _ (hBa16) (fun _ => ?_)
        clear hK K
        try simp only [Act.put, List.setIfInBounds_toArray, List.set_cons_zero, List.set_cons_succ]
        refine wpAnyH_ready (rs := [11]) (by kernel_rfl) (by simp) ?_
        refine' (AllReadyH.cons (o := _) ?hia19 (fun K hK => ?_) AllReadyH.nil)
        case hia19 => (simp only [List.getElem?_toArray, List.getElem?_cons_zero, List.getElem?_cons_succ]; rfl)
        go_simp
        have hBa20 := Below.alloc hBa16 (Below.size hBa16) (.cells #[.int .u8 0, .int .u8 0, .int .u8 0, .int .u8 0, .int .u8 0, .int .u8 0, .int .u8 0, .int .u8 0, .int .u8 0, .int .u8 0, .int .u8 0, .int .u8 0, .int .u8 0, .int .u8 0, .int .u8 0, .int .u8 0, .int .u8 0, .int .u8 0, .int .u8 0, .int .u8 0, .int .u8 0, .int .u8 0, .int .u8 0, .int .u8 0, .int .u8 0, .int .u8 0, .int .u8 0, .int .u8 0, .int .u8 0, .int .u8 0, .int .u8 0, .int .u8 0, .int .u8 0, .int .u8 0, .int .u8 0, .int .u8 0, .int .u8 0, .int .u8 0, .int .u8 0, .int .u8 0, .int .u8 0, .int .u8 0, .int .u8 0, .int .u8 0, .int .u8 0, .int .u8 0, .int .u8 0, .int .u8 0, .int .u8 0, .int .u8 0, .int .u8 0, .int .u8 0, .int .u8 0, .int .u8 0, .int .u8 0, .int .u8 0, .int .u8 0, .int .u8 0, .int .u8 0, .int .u8 0, .int .u8 0, .int .u8 0, .int .u8 0, .int .u8 0] 58)
        have hZa22 := (by have hh := BArr.new Wa17 58 zero64; rw [HE0.out] at hh; exact hh)
        have hgea23 := (show w1.heap.size ≤ Wa17.heap.size from Below.size hBa16)
        have hba24 := below_alloc Wa17 (.cells #[.int .u8 0, .int .u8 0, .int .u8 0, .int .u8 0, .int .u8 0, .int .u8 0, .int .u8 0, .int .u8 0, .int .u8 0, .int .u8 0, .int .u8 0, .int .u8 0, .int .u8 0, .int .u8 0, .int .u8 0, .int .u8 0, .int .u8 0, .int .u8 0, .int .u8 0, .int .u8 0, .int .u8 0, .int .u8 0, .int .u8 0, .int .u8 0, .int .u8 0, .int .u8 0, .int .u8 0, .int .u8 0, .int .u8 0, .int .u8 0, .int .u8 0, .int .u8 0, .int .u8 0, .int .u8 0, .int .u8 0, .int .u8 0, .int .u8 0, .int .u8 0, .int .u8 0, .int .u8 0, .int .u8 0, .int .u8 0, .int .u8 0, .int .u8 0, .int .u8 0, .int .u8 0, .int .u8 0, .int .u8 0, .int .u8 0, .int .u8 0, .int .u8 0, .int .u8 0, .int .u8 0, .int .u8 0, .int .u8 0, .int .u8 0, .int .u8 0, .int .u8 0, .int .u8 0, .int .u8 0, .int .u8 0, .int .u8 0, .int .u8 0, .int .u8 0] 58)
        clear hba24
        refine hK.out _ _ (hBa20) (fun _ => ?_)
        clear hK K
        try simp only [Act.put, List.setIfInBounds_toArray, List.set_cons_zero, List.set_cons_succ]
        generalize (Wa17.alloc (.cells #[.int .u8 0, .int .u8 0, .int .u8 0, .int .u8 0, .int .u8 0, .int .u8 0, .int .u8 0, .int .u8 0, .int .u8 0, .int .u8 0, .int .u8 0, .int .u8 0, .int .u8 0, .int .u8 0, .int .u8 0, .int .u8 0, .int .u8 0, .int .u8 0, .int .u8 0, .int .u8 0, .int .u8 0, .int .u8 0, .int .u8 0, .int .u8 0, .int .u8 0, .int .u8 0, .int .u8 0, .int .u8 0, .int .u8 0, .int .u8 0, .int .u8 0, .int .u8 0, .int .u8 0, .int .u8 0, .int .u8 0, .int .u8 0, .int .u8 0, .int .u8 0, .int .u8 0, .int .u8 0, .int .u8 0, .int .u8 0, .int .u8 0, .int .u8 0, .int .u8 0, .int .u8 0, .int .u8 0, .int .u8 0, .int .u8 0, .int .u8 0, .int .u8 0, .int .u8 0, .int .u8 0, .int .u8 0, .int .u8 0, .int .u8 0, .int .u8 0, .int .u8 0, .int .u8 0, .int .u8 0, .int .u8 0, .int .u8 0, .int .u8 0, .int .u8 0] 58)) = Wa21 at hBa20 hZa22 hgea23 ⊢
        refine wpAnyH_ready (rs := [12]) (by kernel_rfl) (by simp) ?_
        refine' (AllReadyH.cons (o := _) ?hia25 (fun K hK => ?_) AllReadyH.nil)
        case hia25 => (simp only [List.getElem?_toArray, List.getElem?_cons_zero, List.getElem?_cons_succ]; rfl)
        rw [if_pos (by rfl)]
        refine step_store_pairC (.tmp 12) (.tmp 60) rfl (Wa17.heap.size) rfl zero64 T1 (by rfl) R1l hZa22 rfl ?_
        have hZa26 := hZa22.setRow T1
        have hBa27 := below_setRow hBa20 hgea23 (bvs T1).toArray
        refine hK.out _ _ hBa27 (fun _ => ?_)
        clear hK K
        try simp only [Act.put]
        generalize (Wa21.setRow (Wa17.heap.size) (bvs T1).toArray) = Wa28 at hZa26 hBa27 ⊢
        refine wpAnyH_done (by kernel_rfl) ?_ _
        go_wp2_with fail
        go_meet
        case rel => exact ⟨_, rfl, Lib.hid ⟨hZa26, hs1, hgea23, hBa27⟩⟩
      · skip
        go_wp2
        exact ⟨rfl, .inr ⟨u, rfl, hu⟩, below_on H2.out.1 (Nat.le_of_eq HG.out.symm) (hBa16)⟩
    · skip
      go_simp
      have hBa29 := Below.alloc hSa1 (Below.size hSa1) (.cells #[.int .u8 0, .int .u8 0, .int .u8 0, .int .u8 0, .int .u8 0, .int .u8 0, .int .u8 0, .int .u8 0, .int .u8 0, .int .u8 0, .int .u8 0, .int .u8 0, .int .u8 0, .int .u8 0, .int .u8 0, .int .u8 0, .int .u8 0, .int .u8 0, .int .u8 0, .int .u8 0, .int .u8 0, .int .u8 0, .int .u8 0, .int .u8 0, .int .u8 0, .int .u8 0, .int .u8 0, .int .u8 0, .int .u8 0, .int .u8 0, .int .u8 0, .int .u8 0, .int .u8 0, .int .u8 0, .int .u8 0, .int .u8 0, .int .u8 0, .int .u8 0, .int .u8 0, .int .u8 0, .int .u8 0, .int .u8 0, .int .u8 0, .int .u8 0, .int .u8 0, .int .u8 0, .int .u8 0, .int .u8 0, .int .u8 0, .int .u8 0, .int .u8 0, .int .u8 0, .int .u8 0, .int .u8 0, .int .u8 0, .int .u8 0, .int .u8 0, .int .u8 0, .int .u8 0, .int .u8 0, .int .u8 0, .int .u8 0, .int .u8 0, .int .u8 0] 58)
      have hZa31 := (by have hh := BArr.new Wa2 58 zero64; rw [HE0.out] at hh; exact hh)
      have hgea32 := (show w1.heap.size ≤ Wa2.heap.size from Below.size hSa1)
      have hba33 := below_alloc Wa2 (.cells #[.int .u8 0, .int .u8 0, .int .u8 0, .int .u8 0, .int .u8 0, .int .u8 0, .int .u8 0, .int .u8 0, .int .u8 0, .int .u8 0, .int .u8 0, .int .u8 0, .int .u8 0, .int .u8 0, .int .u8 0, .int .u8 0, .int .u8 0, .int .u8 0, .int .u8 0, .int .u8 0, .int .u8 0, .int .u8 0, .int .u8 0, .int .u8 0, .int .u8 0, .int .u8 0, .int .u8 0, .int .u8 0, .int .u8 0, .int .u8 0, .int .u8 0, .int .u8 0, .int .u8 0, .int .u8 0, .int .u8 0, .int .u8 0, .int .u8 0, .int .u8 0, .int .u8 0, .int .u8 0, .int .u8 0, .int .u8 0, .int .u8 0, .int .u8 0, .int .u8 0, .int .u8 0, .int .u8 0, .int .u8 0, .int .u8 0, .int .u8 0, .int .u8 0, .int .u8 0, .int .u8 0, .int .u8 0, .int .u8 0, .int .u8 0, .int .u8 0, .int .u8 0, .int .u8 0, .int .u8 0, .int .u8 0, .int .u8 0, .int .u8 0, .int .u8 0] 58)
      clear hba33
      refine hK.out _ _ (hBa29) (fun _ => ?_)
      clear hK K
      try simp only [Act.put, List.setIfInBounds_toArray, List.set_cons_zero, List.set_cons_succ]
      generalize (Wa2.alloc (.cells #[.int .u8 0, .int .u8 0, .int .u8 0, .int .u8 0, .int .u8 0, .int .u8 0, .int .u8 0, .int .u8 0, .int .u8 0, .int .u8 0, .int .u8 0, .int .u8 0, .int .u8 0, .int .u8 0, .int .u8 0, .int .u8 0, .int .u8 0, .int .u8 0, .int .u8 0, .int .u8 0, .int .u8 0, .int .u8 0, .int .u8 0, .int .u8 0, .int .u8 0, .int .u8 0, .int .u8 0, .int .u8 0, .int .u8 0, .int .u8 0, .int .u8 0, .int .u8 0, .int .u8 0, .int .u8 0, .int .u8 0, .int .u8 0, .int .u8 0, .int .u8 0, .int .u8 0, .int .u8 0, .int .u8 0, .int .u8 0, .int .u8 0, .int .u8 0, .int .u8 0, .int .u8 0, .int .u8 0, .int .u8 0, .int .u8 0, .int .u8 0, .int .u8 0, .int .u8 0, .int .u8 0, .int .u8 0, .int .u8 0, .int .u8 0, .int .u8 0, .int .u8 0, .int .u8 0, .int .u8 0, .int .u8 0, .int .u8 0, .int .u8 0, .int .u8 0] 58)) = Wa30 at hBa29 hZa31 hgea32 ⊢
      refine wpAnyH_ready (rs := [10]) (by kernel_rfl) (by simp) ?_
      refine' (AllReadyH.cons (o := _) ?hia34 (fun K hK => ?_) AllReadyH.nil)
      case hia34 => (simp only [List.getElem?_toArray, List.getElem?_cons_zero, List.getElem?_cons_succ]; rfl)
      go_simp
      go_at_call 39
      refine (C1.out Wa30 (below_on B2.out (Nat.le_refl _) hBa29)).mono ?_
      rintro e Wa37 ⟨hTa38, hba35⟩
      have hBa36 := below_on hBa29 (Nat.le_refl _) hba35
      rcases hTa38 with ⟨rfl, hs1⟩ | ⟨u, rfl, hu⟩
      · skip
        have hZa39 := hZa31.below hba35
        have hgea40 := hgea32
        refine hK.out _ _ (hBa36) (fun _ => ?_)
        clear hK K
        try simp only [Act.put, List.setIfInBounds_toArray, List.set_cons_zero, List.set_cons_succ]
        refine wpAnyH_ready (rs := [12]) (by kernel_rfl) (by simp) ?_
        refine' (AllReadyH.cons (o := _) ?hia41 (fun K hK => ?_) AllReadyH.nil)
        case hia41 => (simp only [List.getElem?_toArray, List.getElem?_cons_zero, List.getElem?_cons_succ]; rfl)
        rw [if_pos (by rfl)]
        refine step_store_pairC (.tmp 12) (.tmp 60) rfl (Wa2.heap.size) rfl zero64 T1 (by rfl) R1l hZa39 rfl ?_
        have hZa42 := hZa39.setRow T1
        have hBa43 := below_setRow hBa36 hgea40 (bvs T1).toArray
        refine hK.out _ _ hBa43 (fun _ => ?_)
        clear hK K
        try simp only [Act.put]
        generalize (Wa37.setRow (Wa2.heap.size) (bvs T1).toArray) = Wa44 at hZa42 hBa43 ⊢
        refine wpAnyH_done (by kernel_rfl) ?_ _
        go_wp2_with fail
        go_meet
        case rel => exact ⟨_, rfl, Lib.hid ⟨hZa42, hs1, hgea40, hBa43⟩⟩
      · skip
        go_wp2
        exact ⟨rfl, .inr ⟨u, rfl, hu⟩, below_on H2.out.1 (Nat.le_of_eq HG.out.symm) (hBa36)⟩
  case rest =>
    obtain ⟨p, rfl, HR⟩ := hcut
    have hs1 := HR.out.2.1
    have B4 := Lib.hid (below_on B2.out (Nat.le_refl _) HR.out.2.2.2)
    have pg : ¬ (p = g) := by have h1 := HR.out.2.2.1; have h2 := H2.out.2.2; omega
    have HP := Lib.hid (fun (W : World) (hW : But (· = g) wc W) => show BArr W p 58 T1 from but_barr hW HR.out.1 pg)
    have HZA := Lib.hid (fun (W : World) (hW : But (· = g) wc W) => show At W (pd.add ((q - 1) * 32)) Z from but_at hW (HAZ.out wc HR.out.2.2.2) (by intro e; rw [block_add] at e; have e' : pd.block = g := e; omega))
    have HS1 := Lib.hid hs1
    clear pg hs1
    go_upto_region 8 with fail
    have hSb1 : Below wc.heap.size wc wc.drew := (Below.refl _ _).drew
    have hresb3 := (H2.out.2.1.below HR.out.2.2.2).below hSb1
    refine wp_region_held_drew (S := fun W => But (· = g) wc W) (by kernel_rfl) (But.of_below hSb1) (fun _ => ?_)
    change wpAnyH _ _ _ _ _ _ _ _ wc.drew
    generalize wc.drew = Wb2 at hSb1 hresb3 ⊢
    refine' wpAnyH_take (i := 0) (oi := _) (v := _) ?hib4 (by kernel_rfl) ?hfb4 ?hrb4 ?hQb4 ?hyb4 (But.of_below hSb1) ?restb4
    case hib4 => (simp only [List.getElem?_toArray, List.getElem?_cons_zero]; rfl)
    case hfb4 => kernel_rfl
    case hrb4 => kernel_rfl
    case hQb4 => exact fun _ _ _ h => h
    case hyb4 => refine Or.inl ⟨by rfl, ?_⟩; intro W hSw; go_simp; try with_reducible rfl
    try simp only [Act.put, List.setIfInBounds_toArray, List.set_cons_zero, List.set_cons_succ]
    refine' wpAnyH_take (i := 1) (oi := _) (v := _) ?hib5 (by kernel_rfl) ?hfb5 ?hrb5 ?hQb5 ?hyb5 (But.of_below hSb1) ?restb5
    case hib5 => (simp only [List.getElem?_toArray, List.getElem?_cons_zero, List.getElem?_cons_succ]; rfl)
    case hfb5 => kernel_rfl
    case hrb5 => kernel_rfl
    case hQb5 => exact fun _ _ _ h => h
    case hyb5 => refine Or.inl ⟨by rfl, ?_⟩; intro W hSw; go_simp; try with_reducible rfl
    try simp only [Act.put, List.setIfInBounds_toArray, List.set_cons_zero, List.set_cons_succ]
    refine' wpAnyH_take (i := 2) (oi := _) (v := _) ?hib6 (by kernel_rfl) ?hfb6 ?hrb6 ?hQb6 ?hyb6 (But.of_below hSb1) ?restb6
    case hib6 => (simp only [List.getElem?_toArray, List.getElem?_cons_zero, List.getElem?_cons_succ]; rfl)
    case hfb6 => kernel_rfl
    case hrb6 => kernel_rfl
    case hQb6 => exact fun _ _ _ h => h
    case hyb6 => refine Or.inl ⟨by rfl, ?_⟩; intro W hSw; go_simp; try with_reducible rfl
    try simp only [Act.put, List.setIfInBounds_toArray, List.set_cons_zero, List.set_cons_succ]
    refine' wpAnyH_take (i := 4) (oi := _) (v := _) ?hib7 (by kernel_rfl) ?hfb7 ?hrb7 ?hQb7 ?hyb7 (But.of_below hSb1) ?restb7
    case hib7 => (simp only [List.getElem?_toArray, List.getElem?_cons_zero, List.getElem?_cons_succ]; rfl)
    case hfb7 => kernel_rfl
    case hrb7 => kernel_rfl
    case hQb7 => exact fun _ _ _ h => h
    case hyb7 => refine Or.inl ⟨by rfl, ?_⟩; intro W hSw; go_simp; try with_reducible rfl
    try simp only [Act.put, List.setIfInBounds_toArray, List.set_cons_zero, List.set_cons_succ]
    refine' wpAnyH_take (i := 5) (oi := _) (v := _) ?hib8 (by kernel_rfl) ?hfb8 ?hrb8 ?hQb8 ?hyb8 (But.of_below hSb1) ?restb8
    case hib8 => (simp only [List.getElem?_toArray, List.getElem?_cons_zero, List.getElem?_cons_succ]; rfl)
    case hfb8 => kernel_rfl
    case hrb8 => kernel_rfl
    case hQb8 => exact fun _ _ _ h => h
    case hyb8 => refine Or.inl ⟨by rfl, ?_⟩; intro W hSw; go_simp; try with_reducible rfl
    try simp only [Act.put, List.setIfInBounds_toArray, List.set_cons_zero, List.set_cons_succ]
    refine' wpAnyH_take (i := 6) (oi := _) (v := _) ?hib9 (by kernel_rfl) ?hfb9 ?hrb9 ?hQb9 ?hyb9 (But.of_below hSb1) ?restb9
    case hib9 => (simp only [List.getElem?_toArray, List.getElem?_cons_zero, List.getElem?_cons_succ]; rfl)
    case hfb9 => kernel_rfl
    case hrb9 => kernel_rfl
    case hQb9 => exact fun _ _ _ h => h
    case hyb9 => refine Or.inl ⟨by rfl, ?_⟩; intro W hSw; go_simp; try with_reducible rfl
    try simp only [Act.put, List.setIfInBounds_toArray, List.set_cons_zero, List.set_cons_succ]
    refine' wpAnyH_take (i := 7) (oi := _) (v := sv Z) ?hib10 (by kernel_rfl) ?hfb10 ?hrb10 ?hQb10 ?hyb10 (But.of_below hSb1) ?restb10
    case hib10 => (simp only [List.getElem?_toArray, List.getElem?_cons_zero, List.getElem?_cons_succ]; rfl)
    case hfb10 => kernel_rfl
    case hrb10 => kernel_rfl
    case hQb10 => exact fun _ _ _ h => h
    case hyb10 => refine Or.inl ⟨by rfl, ?_⟩; intro W hSw; exact load_sum_op (.tmp 67) (by rfl) (by rfl) Zl (HZA.out W hSw)
    try simp only [Act.put, List.setIfInBounds_toArray, List.set_cons_zero, List.set_cons_succ]
    refine' wpAnyH_take (i := 9) (oi := _) (v := sv T1) ?hib11 (by kernel_rfl) ?hfb11 ?hrb11 ?hQb11 ?hyb11 (But.of_below hSb1) ?restb11
    case hib11 => (simp only [List.getElem?_toArray, List.getElem?_cons_zero, List.getElem?_cons_succ]; rfl)
    case hfb11 => kernel_rfl
    case hrb11 => kernel_rfl
    case hQb11 => exact fun _ _ _ h => h
    case hyb11 => refine Or.inl ⟨by rfl, ?_⟩; intro W hSw; exact load_pair_op (.tmp 12) (by rfl) (by rfl) R1l (HP.out W hSw)
    try simp only [Act.put, List.setIfInBounds_toArray, List.set_cons_zero, List.set_cons_succ]
    refine wpAnyH_ready (rs := [3]) (by kernel_rfl) (by simp) ?_
    refine' (AllReadyH.cons (o := _) ?hib12 (fun K hK => ?_) AllReadyH.nil)
    case hib12 => (simp only [List.getElem?_toArray, List.getElem?_cons_zero, List.getElem?_cons_succ]; rfl)
    go_simp
    go_at_call 30
    refine (CRT.out Wb2 (below_on B4.out (Nat.le_refl _) hSb1)).mono ?_
    rintro e Wb15 ⟨rfl, hbb13⟩
    have hBb14 := below_on hSb1 (Nat.le_refl _) hbb13
    have hresb16 := hresb3.below hbb13
    refine hK.out _ _ (But.of_below hBb14) (fun _ => ?_)
    clear hK K
    try simp only [Act.put, List.setIfInBounds_toArray, List.set_cons_zero, List.set_cons_succ]
    refine' wpAnyH_take (i := 8) (oi := _) (v := sv (T2 ++ Z)) ?hib17 (by kernel_rfl) ?hfb17 ?hrb17 ?hQb17 ?hyb17 (But.of_below hBb14) ?restb17
    case hib17 => (simp only [List.getElem?_toArray, List.getElem?_cons_zero, List.getElem?_cons_succ]; rfl)
    case hfb17 => kernel_rfl
    case hrb17 => kernel_rfl
    case hQb17 => exact fun _ _ _ h => h
    case hyb17 => exact yields_build_pairC (by rfl) (.tmp 64) (.tmp 68) (by rfl) T2 Z (by rfl) (by rfl) rl2 Zl
    try simp only [Act.put, List.setIfInBounds_toArray, List.set_cons_zero, List.set_cons_succ]
    refine wpAnyH_ready (rs := [10]) (by kernel_rfl) (by simp) ?_
    refine' (AllReadyH.cons (o := _) ?hib18 (fun K hK => ?_) AllReadyH.nil)
    case hib18 => (simp only [List.getElem?_toArray, List.getElem?_cons_zero, List.getElem?_cons_succ]; rfl)
    go_simp
    go_at_call 59
    refine (C3.out Wb15 (below_on B4.out (Nat.le_refl _) hBb14) HS1.out).mono ?_
    rintro e Wb21 ⟨hTb22, hbb19⟩
    have hBb20 := below_on hBb14 (Nat.le_refl _) hbb19
    rcases hTb22 with ⟨rfl, hs3⟩ | ⟨u, rfl, hu⟩
    · skip
      have hresb23 := hresb16.below hbb19
      refine hK.out _ _ (But.of_below hBb20) (fun _ => ?_)
      clear hK K
      try simp only [Act.put, List.setIfInBounds_toArray, List.set_cons_zero, List.set_cons_succ]
      refine wpAnyH_ready (rs := [11]) (by kernel_rfl) (by simp) ?_
      refine' (AllReadyH.cons (o := _) ?hib24 (fun K hK => ?_) AllReadyH.nil)
      case hib24 => (simp only [List.getElem?_toArray, List.getElem?_cons_zero, List.getElem?_cons_succ]; rfl)
      rw [if_pos (by rfl)]
      have hf := hresb23
      refine step_store_pairC (.tmp 8) (.tmp 71) rfl g rfl zero64 Q (by rfl) Ql hf rfl ?_
      have hz : Below g w (Wb21.setRow g (bvs Q).toArray) := below_setRow (by rw [← HG.out]; exact below_on B4.out (Nat.le_refl _) hBb20) (Nat.le_refl _) _
      refine hK.out _ _ (but_setRow (S := (· = g)) (But.of_below hBb20) rfl _) (fun _ => ?_)
      clear hK K
      try simp only [Act.put]
      have hf2 := hf.setRow Q
      generalize (Wb21.setRow g (bvs Q).toArray) = Wz at hz hf2 ⊢
      refine wpAnyH_done (by kernel_rfl) ?_ _
      go_wp2_with fail
      refine bodyPost_ret_by (results_cell_row (p := 8) (ty := 58) (by kernel_rfl) _ _ g 58 (bvs Q).toArray (0, 0) _ rfl hf2 Tryd.underlying58 rfl (by rw [List.size_toArray, bvs_length, Ql]; exact sizePairC)) rfl ?_
      exact ⟨.inl ⟨rfl, hs3⟩, hz⟩
    · skip
      go_wp2
      exact ⟨rfl, .inr ⟨u, rfl, hu⟩, by rw [← HG.out]; exact below_on B4.out (Nat.le_refl _) hBb20⟩
end

theorem dpath_any {B : Option Addr} {m d r : Nat} {b : List Nat} (hm : m ≤ 20000) : ∀ (n : Nat) (w : World) (A : Addr) (P : Option Addr) (c q at_ : Nat) (R : List (List Nat)) (ys : List Nat), Ent w (some A) n c R → Came w B m d b → InS w P q ys → (∀ x ∈ ys, x < 256) → q ≤ r → q = dep at_ n → at_ < n → Knows w → Starts w → n ≤ 60000 →
    Calls Tryd.prog 39 #[.slice (some A) n c, .int .i64 (at_ : Int), .slice B m d, .slice P q r] w fun e w' => Told w.heap.size (sv (rtl R ++ leadF (nth ys) (leafL b) at_ n 0)) (rtl R = leadF (nth ys) (leafL b) at_ n 0 → R[at_]? = some b) e w' ∧ Below w.heap.size w w' := by
  intro n
  induction n using Nat.strongRecOn with
  | ind n ih =>
    intro w A P c q at_ R ys E1 hB hI hy hqr hq hat hk hks h6
    by_cases hn : n = 1
    · subst hn; exact dpath_one E1 hB hm hI hy hqr hq hat hk hks
    · have ih' := fun k hk w A P c q at_ R ys E1 hB hI hy hqr hq hat hkn hks => ih k hk w A P c q at_ R ys E1 hB hI hy hqr hq hat hkn hks (by omega)
      by_cases hs : at_ < cutN n
      · exact dpath_low E1 hB hm hI hy hqr hq hat hk hks (by omega) h6 hs ih'
      · exact dpath_high E1 hB hm hI hy hqr hq hat hk hks (by omega) h6 hs ih'

end Go.Proofs.YtcekfnngnjpeeaaDoor

/-
  paths.end's closures: the one that takes the next sum of a path out of a variable, and the one that is deferred.
-/
namespace Go.Proofs.YtcekfnngnjpeeaaDoor
open Go.RowKit

/-- The path stands in variable pb, from number j on; everything else is as it was when the call began (B). -/
structure PIn (B w : World) (pb n j : Nat) (A : Option Addr) (c : Nat) (ys : List Nat) : Prop where
  var : VarAt w pb 33 (.slice A (n - j) c)
  in_ : InS B A (n - j) (ys.drop (32 * j))
  cap : n - j ≤ c
  le : j ≤ n
  below : Below B.heap.size B w
  pos : B.heap.size ≤ pb
theorem PIn.below_ {B w w' : World} {pb n j c : Nat} {A : Option Addr} {ys : List Nat} (h : PIn B w pb n j A c ys) (hb : Below w.heap.size w w') : PIn B w' pb n j A c ys :=
  ⟨h.var.below hb, h.in_, h.cap, h.le, below_on h.below (Nat.le_refl _) hb, h.pos⟩
theorem PIn.setRow {B w : World} {pb n j c : Nat} {A : Option Addr} {ys : List Nat} (h : PIn B w pb n j A c ys) {k : Nat} (hk : B.heap.size ≤ k) (hne : pb ≠ k) (cs : Array Value) : PIn B (w.setRow k cs) pb n j A c ys :=
  ⟨h.var.setRow_other k hne cs, h.in_, h.cap, h.le, below_setRow h.below hk cs, h.pos⟩

/-- What the closure panics with. -/
def fell : List PanicEntry := [{ v := .iface 9 (.string { data := #[97, 32, 112, 97, 116, 104, 32, 111, 102, 32, 116, 111, 111, 32, 102, 101, 119, 32, 115, 117, 109, 115] }), recovered := false }]

section
variable {B w : World} {pb n j c : Nat} {A : Option Addr} {ys : List Nat}

set_option maxRecDepth 100000 in
set_option maxHeartbeats 2000000 in
theorem next_none (h : PIn B w pb n j A c ys) (hj : j = n) :
    Calls Tryd.prog 62 #[.pointer (some ⟨pb, 0, none⟩)] w fun e w' => e = .panicked fell ∧ Below w.heap.size w w' := by
  subst hj
  have hc := h.var.cell
  rw [Nat.sub_self] at hc
  have e0 : (bvs zero32).toArray = #[.int .u8 0, .int .u8 0, .int .u8 0, .int .u8 0, .int .u8 0, .int .u8 0, .int .u8 0, .int .u8 0, .int .u8 0, .int .u8 0, .int .u8 0, .int .u8 0, .int .u8 0, .int .u8 0, .int .u8 0, .int .u8 0, .int .u8 0, .int .u8 0, .int .u8 0, .int .u8 0, .int .u8 0, .int .u8 0, .int .u8 0, .int .u8 0, .int .u8 0, .int .u8 0, .int .u8 0, .int .u8 0, .int .u8 0, .int .u8 0, .int .u8 0, .int .u8 0] := rfl
  have b1 := below_alloc w (.cells (bvs zero32).toArray 29)
  rw [e0] at b1
  clear e0
  have hc1 := (b1.cell h.var.lt).trans hc
  have HB := Lib.hid b1
  clear b1 h
  go_enter Tryd.func62, Tryd.ntmps62
  go_upto_region 1 with fail
  obtain ⟨w1, hw1⟩ : ∃ w1, w1 = w.alloc (.cells #[.int .u8 0, .int .u8 0, .int .u8 0, .int .u8 0, .int .u8 0, .int .u8 0, .int .u8 0, .int .u8 0, .int .u8 0, .int .u8 0, .int .u8 0, .int .u8 0, .int .u8 0, .int .u8 0, .int .u8 0, .int .u8 0, .int .u8 0, .int .u8 0, .int .u8 0, .int .u8 0, .int .u8 0, .int .u8 0, .int .u8 0, .int .u8 0, .int .u8 0, .int .u8 0, .int .u8 0, .int .u8 0, .int .u8 0, .int .u8 0, .int .u8 0, .int .u8 0] 29) := ⟨_, rfl⟩
  rw [← hw1] at HB hc1 ⊢
  clear hw1
  go_wp2_with fail
  exact ⟨rfl, rfl, HB.out⟩

set_option maxRecDepth 100000 in
set_option maxHeartbeats 2000000 in
theorem next_some (h : PIn B w pb n j A c ys) (hj : j < n) (hn : n ≤ 1000000) :
    Calls Tryd.prog 62 #[.pointer (some ⟨pb, 0, none⟩)] w fun e w' => e = .returned (sv (nth ys j)) ∧ (∃ A' c', PIn B w' pb n (j + 1) A' c' ys) ∧ But (· = pb) w w' := by
  obtain ⟨p, hp⟩ : ∃ p, n - j = p := ⟨_, rfl⟩
  have hp0 : 0 < p := by omega
  have hin := h.in_
  rw [hp] at hin
  obtain ⟨ad, hA, hl, hat⟩ := hin.at_ hp0
  subst hA
  rw [Nat.zero_mul, add_zero', nth_drop, Nat.add_zero] at hat
  rw [nth_drop, Nat.add_zero] at hl
  obtain ⟨s, hs⟩ : ∃ s, nth ys j = s := ⟨_, rfl⟩
  rw [hs] at hat hl ⊢
  have hcap := h.cap
  rw [hp] at hcap
  obtain ⟨A', hcut, hA'⟩ := cut_nameS (A := some ad) (n := p) (c := c) (k := 1) (by omega)
  have hcut1 : ∀ W : World, (Instr.slice 33 (.slice (some ad) p c) (some (.int .i64 1)) none none).run Tryd.prog W = .ok (.slice A' (p - 1) (c - 1)) W := hcut
  have hin' : InS B A' (p - 1) (ys.drop (32 * (j + 1))) := by
    rw [hA', show 32 * (j + 1) = 32 * j + 32 * 1 by omega, ← List.drop_drop]
    split
    · rename_i e
      obtain rfl : p = 1 := by omega
      have := hin.drop_ 1 (Nat.le_refl _)
      rw [Nat.sub_self] at this ⊢
      exact ⟨this.len, by rw [List.eq_nil_of_length_eq_zero (l := List.drop (32 * 1) (ys.drop (32 * j))) (by rw [this.len])]; exact Rd.nil _ _⟩
    · exact hin.drop_ 1 (by omega)
  have hc := h.var.cell
  rw [hp] at hc
  have e0 : (bvs zero32).toArray = #[.int .u8 0, .int .u8 0, .int .u8 0, .int .u8 0, .int .u8 0, .int .u8 0, .int .u8 0, .int .u8 0, .int .u8 0, .int .u8 0, .int .u8 0, .int .u8 0, .int .u8 0, .int .u8 0, .int .u8 0, .int .u8 0, .int .u8 0, .int .u8 0, .int .u8 0, .int .u8 0, .int .u8 0, .int .u8 0, .int .u8 0, .int .u8 0, .int .u8 0, .int .u8 0, .int .u8 0, .int .u8 0, .int .u8 0, .int .u8 0, .int .u8 0, .int .u8 0] := rfl
  have f1 := BArr.new w 29 zero32
  have b1 := below_alloc w (.cells (bvs zero32).toArray 29)
  have s1 : (w.alloc (.cells (bvs zero32).toArray 29)).heap.size = w.heap.size + 1 := by simp
  rw [e0] at f1 b1 s1
  clear e0
  have hc1 := (b1.cell h.var.lt).trans hc
  have hp1 : ((p : Int) == 0) = false := by simp; omega
  have hp2 : (0 : Int) < (p : Int) := by omega
  have HAt := Lib.hid ((hat.below h.below).below b1)
  have HF := Lib.hid (And.intro f1 (And.intro b1 s1))
  have HV := Lib.hid (h.var.below b1)
  have HH := Lib.hid (And.intro h (And.intro hin' hs))
  have HN := Lib.hid (And.intro hp (And.intro hj (And.intro hcap hn)))
  clear f1 b1 s1 hat hcut hA' hin' hin h hs hp hj hcap hn hc
  go_enter Tryd.func62, Tryd.ntmps62
  go_upto_region 1 with fail
  obtain ⟨w1, hw1⟩ : ∃ w1, w1 = w.alloc (.cells #[.int .u8 0, .int .u8 0, .int .u8 0, .int .u8 0, .int .u8 0, .int .u8 0, .int .u8 0, .int .u8 0, .int .u8 0, .int .u8 0, .int .u8 0, .int .u8 0, .int .u8 0, .int .u8 0, .int .u8 0, .int .u8 0, .int .u8 0, .int .u8 0, .int .u8 0, .int .u8 0, .int .u8 0, .int .u8 0, .int .u8 0, .int .u8 0, .int .u8 0, .int .u8 0, .int .u8 0, .int .u8 0, .int .u8 0, .int .u8 0, .int .u8 0, .int .u8 0] 29) := ⟨_, rfl⟩
  rw [← hw1] at HF HAt HV hc1 ⊢
  clear hw1
  have HZ32 := Lib.hid (show zero32.length = 32 from rfl)
  go_upto_region 4 with (first | with_reducible refine wpList_load_sum rfl (.tmp 8) rfl ad rfl s hl HAt.out ?_ | with_reducible refine wpList_store_new w1 _ rfl rfl (.tmp 2) (.tmp 9) rfl rfl s hl rfl ?_)
  have b2 := below_alloc w1 (.cells (bvs s).toArray 29)
  have g2 := BArr.new w1 29 s
  have V2 := HV.out.below b2
  have F2 := HF.out.1.below b2
  have s2 : (w1.alloc (.cells (bvs s).toArray 29)).heap.size = w1.heap.size + 1 := by simp
  have hc2 := (b2.cell HV.out.lt).trans hc1
  have hf2 := V2.free
  obtain ⟨w2, hw2⟩ : ∃ w2, w2 = w1.alloc (.cells (bvs s).toArray 29) := ⟨_, rfl⟩
  rw [← hw2] at b2 g2 V2 F2 s2 hc2 hf2 ⊢
  clear hw2
  have HG := Lib.hid (And.intro b2 (And.intro g2 (And.intro V2 (And.intro F2 s2))))
  clear b2 g2 V2 F2 s2
  go_upto_region 5 with fail
  obtain ⟨w3, hw3⟩ : ∃ w3, w3 = w2.setCell ⟨pb, 0, none⟩ (.slice A' (p - 1) (c - 1)) := ⟨_, rfl⟩
  rw [← hw3]
  have hpb : pb < w.heap.size := HH.out.1.var.lt
  have g3 : BArr w3 w1.heap.size 29 s := by rw [hw3]; exact HG.out.2.1.other _ _ (by have := HF.out.2.2; simp only; omega)
  have f3 : BArr w3 w.heap.size 29 zero32 := by rw [hw3]; exact HG.out.2.2.2.1.other _ _ (by simp only; omega)
  have v3 : VarAt w3 pb 33 (.slice A' (p - 1) (c - 1)) := by rw [hw3]; exact HG.out.2.2.1.set _
  have HK := Lib.hid (And.intro v3 hw3)
  have g3' := Lib.hid g3.at_
  clear v3 hw3 g3
  go_wp2_with (first | with_reducible refine wpList_load_sum rfl (.tmp 2) rfl ⟨w1.heap.size, 0, none⟩ rfl s hl g3'.out ?_ | with_reducible refine wpList_store_sum rfl (.tmp 1) (.tmp 12) rfl w.heap.size rfl zero32 s HZ32 hl f3 rfl ?_)
  refine bodyPost_ret_by (results_cell_row (p := 1) (ty := 29) (by kernel_rfl) _ _ w.heap.size 29 (bvs s).toArray (0, 0) _ rfl (f3.setRow _) Tryd.underlying29 rfl (by rw [List.size_toArray, bvs_length, hl]; exact sizeSum)) rfl ?_
  have bu : But (· = pb) w w3 := by rw [HK.out.2]; exact ((But.of_below HF.out.2.1).trans (But.of_below HG.out.1)).set 0 _ (fun _ => rfl)
  have HB := HH.out.1
  refine ⟨rfl, ⟨A', c - 1, ?_⟩, ?_⟩
  · have hpos := HB.pos
    have hnn := HN.out
    refine ⟨?_, ?_, ?_, by omega, ?_, hpos⟩
    · rw [show n - (j + 1) = p - 1 by omega]
      exact HK.out.1.setRow_other _ (by omega) _
    · rw [show n - (j + 1) = p - 1 by omega]; exact HH.out.2.1
    · omega
    · exact below_setRow (HB.below.trans (bu.below HB.below.size (fun b e => by rw [e]; exact hpos))) (by have := HB.below.size; omega) _
  · exact ⟨bu.os, bu.tape, bu.output, by rw [setRow_size]; exact bu.size, fun b hb hne => (Go.setRow_other _ _ _ _ (by omega)).trans (bu.block b hb hne)⟩
end

end Go.Proofs.YtcekfnngnjpeeaaDoor

/-
  A sum stored in a variable, loaded, in a region that draws its order.
-/
namespace Go.Proofs.YtcekfnngnjpeeaaDoor
open Go.RowKit

theorem step_store_sum {o : Oper} {a : Act} {w : World} {K : Act → World → Prop} {Q : Exit → Act → World → Prop} (x y : Operand) (ho : o.op = .store 29 x y)
    (g : Nat) (hx : a.eval x = .pointer (some ⟨g, 0, none⟩)) {T : TypeId} (xs ys : List Nat) (hl : xs.length = 32) (hl' : ys.length = 32) (hc : BArr w g T xs) (hy : a.eval y = sv ys)
    (h : K (a.put o.dst undef) (w.setRow g (bvs ys).toArray)) : Oper.wp Tryd.prog o a w K Q := by
  have hr := run_storeVar_row (P := Tryd.prog) w g T 29 (bvs xs).toArray (bvs ys).toArray hc (by rw [List.size_toArray, bvs_length, hl']; exact sizeSum) (by rw [List.size_toArray, bvs_length, hl, List.size_toArray, bvs_length, hl']) (all_oneCell_toArray (bvs_oneCell ys))
  unfold Oper.wp execOp
  simp only [ho, hx, hy, sv, Instr.storeAt, Instr.sureAddr, Sem.run_bind, Sem.run_pure, Result.andThen_ok, hr]
  exact h

theorem run_at_sum {o : Oper} {a : Act} {w : World} (x : Operand) (ho : o.op = .load 29 x) (ad : Addr) (hx : a.eval x = .pointer (some ad)) (s : List Nat) (hl : s.length = 32) (hc : At w ad s) :
    (execOp a.eval o).run Tryd.prog w = .ok (.value (sv s)) w := by
  unfold execOp
  simp only [ho, hx, Instr.loadAt, Instr.sureAddr, Sem.run_bind, Sem.run_pure, Result.andThen_ok, run_load_sum w ad s hl hc]

end Go.Proofs.YtcekfnngnjpeeaaDoor

/-
  paths.lead: what the sums of a path lead to; or the closure falls, and so does this.
-/
namespace Go.Proofs.YtcekfnngnjpeeaaDoor
open Go.RowKit

/-- The closure that takes the next one. -/
def takes (pb : Nat) : Value := .func (.func 62) #[] #[.pointer (some ⟨pb, 0, none⟩)]

/-- The world in which lead begins. -/
structure LeadIn (w w1 : World) (leaf : List Nat) : Prop where
  leaf : BArr w1 w.heap.size 29 leaf
  res : BArr w1 (w.heap.size + 1) 29 zero32
  below : Below w.heap.size w w1
  size : w1.heap.size = w.heap.size + 2

theorem leadIn_of (w : World) (leaf : List Nat) : LeadIn w ((w.alloc (.cells (bvs leaf).toArray 29)).alloc (.cells (bvs zero32).toArray 29)) leaf := by
  have f0 := (BArr.new w 29 leaf).alloc (.cells (bvs zero32).toArray 29)
  have f1 := BArr.new (w.alloc (.cells (bvs leaf).toArray 29)) 29 zero32
  rw [World.size_alloc] at f1
  exact ⟨f0, f1, (below_alloc w _).alloc (by simp) _, by simp⟩

section
variable {B w : World} {pb n j c : Nat} {A : Option Addr} {ys : List Nat} {leaf : List Nat} {at_ size : Nat}

set_option maxRecDepth 100000 in
set_option maxHeartbeats 2000000 in
theorem lead_one (h : PIn B w pb n j A c ys) (hl : leaf.length = 32) :
    Calls Tryd.prog 63 #[sv leaf, .int .u64 (at_ : Int), .int .u64 1, takes pb] w fun e w' => e = .returned (sv leaf) ∧ (∃ A' c', PIn B w' pb n j A' c' ys) ∧ But (· = pb) w w' := by
  have e0 : (bvs zero32).toArray = #[.int .u8 0, .int .u8 0, .int .u8 0, .int .u8 0, .int .u8 0, .int .u8 0, .int .u8 0, .int .u8 0, .int .u8 0, .int .u8 0, .int .u8 0, .int .u8 0, .int .u8 0, .int .u8 0, .int .u8 0, .int .u8 0, .int .u8 0, .int .u8 0, .int .u8 0, .int .u8 0, .int .u8 0, .int .u8 0, .int .u8 0, .int .u8 0, .int .u8 0, .int .u8 0, .int .u8 0, .int .u8 0, .int .u8 0, .int .u8 0, .int .u8 0, .int .u8 0] := rfl
  have h1 := leadIn_of w leaf
  rw [e0] at h1
  clear e0
  have H1 := Lib.hid h1
  have HP := Lib.hid h
  clear h1 h
  unfold sv takes
  go_enter Tryd.func63, Tryd.ntmps63
  go_upto_region 1 with fail
  obtain ⟨w1, hw1⟩ : ∃ w1, w1 = (w.alloc (.cells (bvs leaf).toArray 29)).alloc (.cells #[.int .u8 0, .int .u8 0, .int .u8 0, .int .u8 0, .int .u8 0, .int .u8 0, .int .u8 0, .int .u8 0, .int .u8 0, .int .u8 0, .int .u8 0, .int .u8 0, .int .u8 0, .int .u8 0, .int .u8 0, .int .u8 0, .int .u8 0, .int .u8 0, .int .u8 0, .int .u8 0, .int .u8 0, .int .u8 0, .int .u8 0, .int .u8 0, .int .u8 0, .int .u8 0, .int .u8 0, .int .u8 0, .int .u8 0, .int .u8 0, .int .u8 0, .int .u8 0] 29) := ⟨_, rfl⟩
  rw [← hw1] at H1 ⊢
  clear hw1
  have HZ32 := Lib.hid (show zero32.length = 32 from rfl)
  have hA := Lib.hid H1.out.leaf.at_
  have f1 := H1.out.res
  go_wp2_with (first | with_reducible refine wpList_load_sum rfl (.tmp 4) rfl ⟨w.heap.size, 0, none⟩ rfl leaf hl hA.out ?_ | with_reducible refine wpList_store_sum rfl (.tmp 8) (.tmp 14) rfl (w.heap.size + 1) rfl zero32 leaf HZ32 hl f1 rfl ?_)
  refine bodyPost_ret_by (results_cell_row (p := 8) (ty := 29) (by kernel_rfl) _ _ (w.heap.size + 1) 29 (bvs leaf).toArray (0, 0) _ rfl (f1.setRow _) Tryd.underlying29 rfl (by rw [List.size_toArray, bvs_length, hl]; exact sizeSum)) rfl ?_
  have hlt := HP.out.var.lt
  have hbb := HP.out.below.size
  exact ⟨rfl, ⟨A, c, (HP.out.below_ H1.out.below).setRow (by omega) (by omega) _⟩, But.of_below (below_setRow H1.out.below (by omega) _)⟩

set_option maxRecDepth 100000 in
set_option maxHeartbeats 4000000 in
theorem lead_low_fall (h : PIn B w pb n j A c ys) (hl : leaf.length = 32) (h2 : 2 ≤ size) (hz : size < 18446744073709551616) (hat : at_ < size) (ha : at_ < cutN size)
    (ih : ∀ w' : World, PIn B w' pb n j A c ys → Calls Tryd.prog 63 #[sv leaf, .int .u64 (at_ : Nat), .int .u64 ((cutN size) : Nat), takes pb] w' fun e w'' => e = .panicked fell ∧ But (· = pb) w' w'') :
    Calls Tryd.prog 63 #[sv leaf, .int .u64 (at_ : Int), .int .u64 (size : Int), takes pb] w fun e w' => e = .panicked fell ∧ But (· = pb) w w' := by
  have e0 : (bvs zero32).toArray = #[.int .u8 0, .int .u8 0, .int .u8 0, .int .u8 0, .int .u8 0, .int .u8 0, .int .u8 0, .int .u8 0, .int .u8 0, .int .u8 0, .int .u8 0, .int .u8 0, .int .u8 0, .int .u8 0, .int .u8 0, .int .u8 0, .int .u8 0, .int .u8 0, .int .u8 0, .int .u8 0, .int .u8 0, .int .u8 0, .int .u8 0, .int .u8 0, .int .u8 0, .int .u8 0, .int .u8 0, .int .u8 0, .int .u8 0, .int .u8 0, .int .u8 0, .int .u8 0] := rfl
  have h1 := leadIn_of w leaf
  rw [e0] at h1
  clear e0
  have H1 := Lib.hid h1
  have hcl := cutN_lt h2
  have hcp := cutN_pos size
  obtain ⟨k, hk0⟩ : ∃ k, cutN size = k := ⟨_, rfl⟩
  rw [hk0] at hcl hcp ha ih
  have hai : (at_ : Int) < (k : Int) := by omega
  have hs1 : ((size : Int) == 1) = false := by simp; omega
  have HP := Lib.hid h
  have IH := Lib.hid ih
  have HL := Lib.hid hl
  obtain ⟨w1, hw1⟩ : ∃ w1, w1 = (w.alloc (.cells (bvs leaf).toArray 29)).alloc (.cells #[.int .u8 0, .int .u8 0, .int .u8 0, .int .u8 0, .int .u8 0, .int .u8 0, .int .u8 0, .int .u8 0, .int .u8 0, .int .u8 0, .int .u8 0, .int .u8 0, .int .u8 0, .int .u8 0, .int .u8 0, .int .u8 0, .int .u8 0, .int .u8 0, .int .u8 0, .int .u8 0, .int .u8 0, .int .u8 0, .int .u8 0, .int .u8 0, .int .u8 0, .int .u8 0, .int .u8 0, .int .u8 0, .int .u8 0, .int .u8 0, .int .u8 0, .int .u8 0] 29) := ⟨_, rfl⟩
  rw [← hw1] at H1
  have HW := Lib.hid hw1
  have CM := Lib.hid (pleft_any size w1 h2 hz)
  rw [hk0] at CM
  have HX := Lib.hid (And.intro h2 (And.intro hz (And.intro hat (And.intro hcl (And.intro hcp hk0)))))
  clear h1 h ih h2 hz hat hcl hcp hk0 hw1 ha
  unfold sv takes
  go_enter Tryd.func63, Tryd.ntmps63
  go_upto_region 1 with fail
  rw [← HW.out]
  go_wp2_with fail
  refine CM.out.mono ?_
  rintro e w2 ⟨rfl, rfl⟩
  have hA := Lib.hid H1.out.leaf.at_
  go_wp2_with (with_reducible refine wpList_load_sum rfl (.tmp 4) rfl ⟨w.heap.size, 0, none⟩ rfl leaf hl hA.out ?_)
  refine (IH.out w2 (HP.out.below_ H1.out.below)).mono ?_
  rintro e w3 ⟨rfl, hb3⟩
  go_wp2_with fail
  exact ⟨rfl, rfl, (But.of_below H1.out.below).trans hb3⟩

set_option maxRecDepth 100000 in
set_option maxHeartbeats 4000000 in
theorem lead_low_short {L : List Nat} {q : Nat} (h : PIn B w pb n j A c ys) (hl : leaf.length = 32) (h2 : 2 ≤ size) (hz : size < 18446744073709551616) (hat : at_ < size) (ha : at_ < cutN size)
    (ih : ∀ w' : World, PIn B w' pb n j A c ys → Calls Tryd.prog 63 #[sv leaf, .int .u64 (at_ : Nat), .int .u64 ((cutN size) : Nat), takes pb] w' fun e w'' => e = .returned (sv L) ∧ (∃ A' c', PIn B w'' pb n q A' c' ys) ∧ But (· = pb) w' w'') (hL : L.length = 32) (hq : q = n) :
    Calls Tryd.prog 63 #[sv leaf, .int .u64 (at_ : Int), .int .u64 (size : Int), takes pb] w fun e w' => e = .panicked fell ∧ But (· = pb) w w' := by
  have e0 : (bvs zero32).toArray = #[.int .u8 0, .int .u8 0, .int .u8 0, .int .u8 0, .int .u8 0, .int .u8 0, .int .u8 0, .int .u8 0, .int .u8 0, .int .u8 0, .int .u8 0, .int .u8 0, .int .u8 0, .int .u8 0, .int .u8 0, .int .u8 0, .int .u8 0, .int .u8 0, .int .u8 0, .int .u8 0, .int .u8 0, .int .u8 0, .int .u8 0, .int .u8 0, .int .u8 0, .int .u8 0, .int .u8 0, .int .u8 0, .int .u8 0, .int .u8 0, .int .u8 0, .int .u8 0] := rfl
  have h1 := leadIn_of w leaf
  rw [e0] at h1
  clear e0
  have H1 := Lib.hid h1
  have hcl := cutN_lt h2
  have hcp := cutN_pos size
  obtain ⟨k, hk0⟩ : ∃ k, cutN size = k := ⟨_, rfl⟩
  rw [hk0] at hcl hcp ha ih
  have hai : (at_ : Int) < (k : Int) := by omega
  have hs1 : ((size : Int) == 1) = false := by simp; omega
  have HP := Lib.hid h
  have IH := Lib.hid ih
  have HL := Lib.hid hl
  obtain ⟨w1, hw1⟩ : ∃ w1, w1 = (w.alloc (.cells (bvs leaf).toArray 29)).alloc (.cells #[.int .u8 0, .int .u8 0, .int .u8 0, .int .u8 0, .int .u8 0, .int .u8 0, .int .u8 0, .int .u8 0, .int .u8 0, .int .u8 0, .int .u8 0, .int .u8 0, .int .u8 0, .int .u8 0, .int .u8 0, .int .u8 0, .int .u8 0, .int .u8 0, .int .u8 0, .int .u8 0, .int .u8 0, .int .u8 0, .int .u8 0, .int .u8 0, .int .u8 0, .int .u8 0, .int .u8 0, .int .u8 0, .int .u8 0, .int .u8 0, .int .u8 0, .int .u8 0] 29) := ⟨_, rfl⟩
  rw [← hw1] at H1
  have HW := Lib.hid hw1
  have CM := Lib.hid (pleft_any size w1 h2 hz)
  rw [hk0] at CM
  have HX := Lib.hid (And.intro h2 (And.intro hz (And.intro hat (And.intro hcl (And.intro hcp hk0)))))
  have HLL := Lib.hid hL
  have HQ := Lib.hid hq
  clear h1 h ih h2 hz hat hcl hcp hk0 hw1 ha hL hq
  unfold sv takes
  go_enter Tryd.func63, Tryd.ntmps63
  go_upto_region 1 with fail
  rw [← HW.out]
  go_wp2_with fail
  refine CM.out.mono ?_
  rintro e w2 ⟨rfl, rfl⟩
  have hA := Lib.hid H1.out.leaf.at_
  go_wp2_with (with_reducible refine wpList_load_sum rfl (.tmp 4) rfl ⟨w.heap.size, 0, none⟩ rfl leaf hl hA.out ?_)
  refine (IH.out w2 (HP.out.below_ H1.out.below)).mono ?_
  rintro e w3 ⟨rfl, ⟨A3, c3, hp3⟩, hb3⟩
  have HP3 := Lib.hid hp3
  have HB3 := Lib.hid ((But.of_below H1.out.below).trans hb3)
  have hlt := HP.out.var.lt
  have hsz := H1.out.size
  have r3 : BArr w3 (w.heap.size + 1) 29 zero32 := (hb3.block _ H1.out.res.lt (by omega)).trans H1.out.res
  have HR3 := Lib.hid r3
  have HS3 := Lib.hid (And.intro hlt (And.intro hsz hb3.size))
  clear hp3 hb3 hlt hsz r3
  have hLl := HLL.out
  go_upto_region 6 with (with_reducible refine wpList_store_new w3 _ rfl rfl (.tmp 10) (.tmp 24) rfl rfl L hLl rfl ?_)
  have b4 := below_alloc w3 (.cells (bvs L).toArray 29)
  have g4 := BArr.new w3 29 L
  obtain ⟨w4, hw4⟩ : ∃ w4, w4 = w3.alloc (.cells (bvs L).toArray 29) := ⟨_, rfl⟩
  rw [← hw4] at b4 g4 ⊢
  have HP4 := Lib.hid (HP3.out.below_ b4)
  have HR4 := Lib.hid (HR3.out.below b4)
  have HB4 := Lib.hid (HB3.out.trans (But.of_below b4))
  have H4 := Lib.hid (And.intro b4 g4)
  clear hw4 b4 g4
  have hS : BArr w4.drew w3.heap.size 29 L := H4.out.2
  refine wp_region_held (S := fun W => BArr W w3.heap.size 29 L) (by kernel_rfl) ?_
  change wpAnyH _ _ _ _ _ _ _ _ w4.drew
  refine' wpAnyH_take (i := 1) (oi := _) (v := _) ?him (by kernel_rfl) ?hfm ?hrm ?hQm ?hym hS ?restm
  case him => (simp only [List.getElem?_toArray, List.getElem?_cons_zero, List.getElem?_cons_succ]; rfl)
  case hfm => kernel_rfl
  case hrm => kernel_rfl
  case hQm => exact fun _ _ _ h => h
  case hym =>
    refine Or.inl ⟨by rfl, ?_⟩
    intro W hSw
    go_simp
    try with_reducible rfl
  simp only [Act.put, List.setIfInBounds_toArray, List.set_cons_zero, List.set_cons_succ]
  refine' wpAnyH_take (i := 0) (oi := _) (v := sv L) ?hil (by kernel_rfl) ?hfl ?hrl ?hQl ?hyl hS ?restl
  case hil => (simp only [List.getElem?_toArray, List.getElem?_cons_zero]; rfl)
  case hfl => kernel_rfl
  case hrl => kernel_rfl
  case hQl => exact fun _ _ _ h => h
  case hyl =>
    refine Or.inl ⟨by rfl, ?_⟩
    intro W hSw
    exact run_at_sum (.tmp 10) (by rfl) ⟨w3.heap.size, 0, none⟩ (by rfl) L HLL.out hSw.at_
  simp only [Act.put, List.setIfInBounds_toArray, List.set_cons_zero, List.set_cons_succ]
  refine wpAnyH_ready (rs := [2]) (by kernel_rfl) (by simp) ?_
  refine' AllReadyH.cons (o := _) ?hin (fun K1 hK1 => ?_) AllReadyH.nil
  case hin => (simp only [List.getElem?_toArray, List.getElem?_cons_zero, List.getElem?_cons_succ]; rfl)
  rw [if_pos (by rfl)]
  go_simp
  refine (next_none (HP4.out.below_ ((Below.refl _ _).drew)) HQ.out).mono ?_
  rintro e w5 ⟨rfl, hb5⟩
  go_wp2
  exact ⟨rfl, rfl, HB4.out.trans ((But.refl _ _).drew.trans (But.of_below hb5))⟩

set_option maxRecDepth 100000 in
set_option maxHeartbeats 4000000 in
theorem lead_low_yes {L : List Nat} {q : Nat} (h : PIn B w pb n j A c ys) (hl : leaf.length = 32) (h2 : 2 ≤ size) (hz : size < 18446744073709551616) (hat : at_ < size) (ha : at_ < cutN size)
    (ih : ∀ w' : World, PIn B w' pb n j A c ys → Calls Tryd.prog 63 #[sv leaf, .int .u64 (at_ : Nat), .int .u64 ((cutN size) : Nat), takes pb] w' fun e w'' => e = .returned (sv L) ∧ (∃ A' c', PIn B w'' pb n q A' c' ys) ∧ But (· = pb) w' w'') (hL : L.length = 32) (hLb : ∀ x ∈ L, x < 256) (hq : q < n) (hn : n ≤ 1000000) (hy : ∀ x ∈ ys, x < 256) (hlen : ys.length = 32 * n) (hk : Knows B) (hs : Starts B) :
    Calls Tryd.prog 63 #[sv leaf, .int .u64 (at_ : Int), .int .u64 (size : Int), takes pb] w fun e w' => e = .returned (sv (nodeL L (nth ys q))) ∧ (∃ A' c', PIn B w' pb n (q + 1) A' c' ys) ∧ But (· = pb) w w' := by
  have e0 : (bvs zero32).toArray = #[.int .u8 0, .int .u8 0, .int .u8 0, .int .u8 0, .int .u8 0, .int .u8 0, .int .u8 0, .int .u8 0, .int .u8 0, .int .u8 0, .int .u8 0, .int .u8 0, .int .u8 0, .int .u8 0, .int .u8 0, .int .u8 0, .int .u8 0, .int .u8 0, .int .u8 0, .int .u8 0, .int .u8 0, .int .u8 0, .int .u8 0, .int .u8 0, .int .u8 0, .int .u8 0, .int .u8 0, .int .u8 0, .int .u8 0, .int .u8 0, .int .u8 0, .int .u8 0] := rfl
  have h1 := leadIn_of w leaf
  rw [e0] at h1
  clear e0
  have H1 := Lib.hid h1
  have hcl := cutN_lt h2
  have hcp := cutN_pos size
  obtain ⟨k, hk0⟩ : ∃ k, cutN size = k := ⟨_, rfl⟩
  rw [hk0] at hcl hcp ha ih
  have hai : (at_ : Int) < (k : Int) := by omega
  have hs1 : ((size : Int) == 1) = false := by simp; omega
  have HP := Lib.hid h
  have IH := Lib.hid ih
  have HL := Lib.hid hl
  obtain ⟨w1, hw1⟩ : ∃ w1, w1 = (w.alloc (.cells (bvs leaf).toArray 29)).alloc (.cells #[.int .u8 0, .int .u8 0, .int .u8 0, .int .u8 0, .int .u8 0, .int .u8 0, .int .u8 0, .int .u8 0, .int .u8 0, .int .u8 0, .int .u8 0, .int .u8 0, .int .u8 0, .int .u8 0, .int .u8 0, .int .u8 0, .int .u8 0, .int .u8 0, .int .u8 0, .int .u8 0, .int .u8 0, .int .u8 0, .int .u8 0, .int .u8 0, .int .u8 0, .int .u8 0, .int .u8 0, .int .u8 0, .int .u8 0, .int .u8 0, .int .u8 0, .int .u8 0] 29) := ⟨_, rfl⟩
  rw [← hw1] at H1
  have HW := Lib.hid hw1
  have CM := Lib.hid (pleft_any size w1 h2 hz)
  rw [hk0] at CM
  have HX := Lib.hid (And.intro h2 (And.intro hz (And.intro hat (And.intro hcl (And.intro hcp hk0)))))
  have HLL := Lib.hid hL
  have HQ := Lib.hid (And.intro hLb (And.intro hq (And.intro hn (And.intro hy (And.intro hlen (And.intro hk hs))))))
  clear h1 h ih h2 hz hat hcl hcp hk0 hw1 ha hL hLb hq hn hy hlen hk hs
  unfold sv takes
  go_enter Tryd.func63, Tryd.ntmps63
  go_upto_region 1 with fail
  rw [← HW.out]
  go_wp2_with fail
  refine CM.out.mono ?_
  rintro e w2 ⟨rfl, rfl⟩
  have hA := Lib.hid H1.out.leaf.at_
  go_wp2_with (with_reducible refine wpList_load_sum rfl (.tmp 4) rfl ⟨w.heap.size, 0, none⟩ rfl leaf hl hA.out ?_)
  refine (IH.out w2 (HP.out.below_ H1.out.below)).mono ?_
  rintro e w3 ⟨rfl, ⟨A3, c3, hp3⟩, hb3⟩
  have HP3 := Lib.hid hp3
  have HB3 := Lib.hid ((But.of_below H1.out.below).trans hb3)
  have hlt := HP.out.var.lt
  have hsz := H1.out.size
  have r3 : BArr w3 (w.heap.size + 1) 29 zero32 := (hb3.block _ H1.out.res.lt (by omega)).trans H1.out.res
  have HR3 := Lib.hid r3
  have HS3 := Lib.hid (And.intro hlt (And.intro hsz hb3.size))
  clear hp3 hb3 hlt hsz r3
  have hLl := HLL.out
  go_upto_region 6 with (with_reducible refine wpList_store_new w3 _ rfl rfl (.tmp 10) (.tmp 24) rfl rfl L hLl rfl ?_)
  have b4 := below_alloc w3 (.cells (bvs L).toArray 29)
  have g4 := BArr.new w3 29 L
  obtain ⟨w4, hw4⟩ : ∃ w4, w4 = w3.alloc (.cells (bvs L).toArray 29) := ⟨_, rfl⟩
  rw [← hw4] at b4 g4 ⊢
  have HP4 := Lib.hid (HP3.out.below_ b4)
  have HR4 := Lib.hid (HR3.out.below b4)
  have HB4 := Lib.hid (HB3.out.trans (But.of_below b4))
  have H4 := Lib.hid (And.intro b4 g4)
  clear hw4 b4 g4
  have hS : BArr w4.drew w3.heap.size 29 L := H4.out.2
  refine wp_region_held (S := fun W => BArr W w3.heap.size 29 L) (by kernel_rfl) ?_
  change wpAnyH _ _ _ _ _ _ _ _ w4.drew
  refine' wpAnyH_take (i := 1) (oi := _) (v := _) ?him (by kernel_rfl) ?hfm ?hrm ?hQm ?hym hS ?restm
  case him => (simp only [List.getElem?_toArray, List.getElem?_cons_zero, List.getElem?_cons_succ]; rfl)
  case hfm => kernel_rfl
  case hrm => kernel_rfl
  case hQm => exact fun _ _ _ h => h
  case hym =>
    refine Or.inl ⟨by rfl, ?_⟩
    intro W hSw
    go_simp
    try with_reducible rfl
  simp only [Act.put, List.setIfInBounds_toArray, List.set_cons_zero, List.set_cons_succ]
  refine' wpAnyH_take (i := 0) (oi := _) (v := sv L) ?hil (by kernel_rfl) ?hfl ?hrl ?hQl ?hyl hS ?restl
  case hil => (simp only [List.getElem?_toArray, List.getElem?_cons_zero]; rfl)
  case hfl => kernel_rfl
  case hrl => kernel_rfl
  case hQl => exact fun _ _ _ h => h
  case hyl =>
    refine Or.inl ⟨by rfl, ?_⟩
    intro W hSw
    exact run_at_sum (.tmp 10) (by rfl) ⟨w3.heap.size, 0, none⟩ (by rfl) L HLL.out hSw.at_
  simp only [Act.put, List.setIfInBounds_toArray, List.set_cons_zero, List.set_cons_succ]
  refine wpAnyH_ready (rs := [2]) (by kernel_rfl) (by simp) ?_
  refine' AllReadyH.cons (o := _) ?hin (fun K1 hK1 => ?_) AllReadyH.nil
  case hin => (simp only [List.getElem?_toArray, List.getElem?_cons_zero, List.getElem?_cons_succ]; rfl)
  rw [if_pos (by rfl)]
  go_simp
  obtain ⟨s, hs0⟩ : ∃ s, nth ys q = s := ⟨_, rfl⟩
  have hsl : s.length = 32 := by rw [← hs0]; exact nth_length HQ.out.2.2.2.2.1 HQ.out.2.1
  have hsb : ∀ x ∈ s, x < 256 := by rw [← hs0]; exact nth_lt HQ.out.2.2.2.1 q
  obtain ⟨N, hN⟩ : ∃ N, nodeL L s = N := ⟨_, rfl⟩
  have hNl : N.length = 32 := by rw [← hN]; exact nodeL_length _ _
  have HNN := Lib.hid (And.intro hN (And.intro hNl (And.intro hsl (And.intro hsb hs0))))
  refine (next_some (HP4.out.below_ ((Below.refl _ _).drew)) HQ.out.2.1 HQ.out.2.2.1).mono ?_
  rw [hs0]
  clear hs0 hsl hsb hN hNl
  rintro e w5 ⟨rfl, ⟨A5, c5, hp5⟩, hb5⟩
  have g5 : BArr w5 w3.heap.size 29 L := (hb5.block _ H4.out.2.lt (by have := HS3.out; omega)).trans H4.out.2
  have r5 : BArr w5 (w.heap.size + 1) 29 zero32 := (hb5.block _ HR4.out.lt (by have := HS3.out; omega)).trans HR4.out
  have HP5 := Lib.hid hp5
  have HB5 := Lib.hid hb5
  have HR5 := Lib.hid r5
  clear hp5 hb5 r5
  refine hK1.out _ _ g5 (fun _ => ?_)
  clear hK1 K1
  refine wpAnyH_ready (rs := [3]) (by kernel_rfl) (by simp) ?_
  refine' AllReadyH.cons (o := _) ?hin2 (fun K2 hK2 => ?_) AllReadyH.nil
  case hin2 => (simp only [List.getElem?_toArray, List.getElem?_cons_zero, List.getElem?_cons_succ]; rfl)
  rw [if_pos (by rfl)]
  go_simp
  refine (node_any L s w5 HLL.out HNN.out.2.2.1 HQ.out.1 HNN.out.2.2.2.1 (HQ.out.2.2.2.2.2.1.below HP5.out.below) (HQ.out.2.2.2.2.2.2.below HP5.out.below)).mono ?_
  rintro e w6 ⟨rfl, hb6⟩
  rw [HNN.out.1]
  have g6 : BArr w6 w3.heap.size 29 L := g5.below hb6
  have r6 : BArr w6 (w.heap.size + 1) 29 zero32 := HR5.out.below hb6
  refine hK2.out _ _ g6 (fun _ => ?_)
  clear hK2 K2
  refine wpAnyH_ready (rs := [4]) (by kernel_rfl) (by simp) ?_
  refine' AllReadyH.cons (o := _) ?hin3 (fun K3 hK3 => ?_) AllReadyH.nil
  case hin3 => (simp only [List.getElem?_toArray, List.getElem?_cons_zero, List.getElem?_cons_succ]; rfl)
  rw [if_pos (by rfl)]
  refine step_store_sum (.tmp 8) (.tmp 28) rfl (w.heap.size + 1) rfl zero32 N rfl HNN.out.2.1 r6 rfl ?_
  refine hK3.out _ _ (g6.setRow_other _ (by have := HS3.out; omega) _) (fun _ => ?_)
  clear hK3 K3
  refine wpAnyH_done (by kernel_rfl) ?_ _
  go_wp2
  refine bodyPost_ret_by (results_cell_row (p := 8) (ty := 29) (by kernel_rfl) _ _ (w.heap.size + 1) 29 (bvs N).toArray (0, 0) _ rfl (r6.setRow _) Tryd.underlying29 rfl (by rw [List.size_toArray, bvs_length, HNN.out.2.1]; exact sizeSum)) rfl ?_
  have hlt := HP.out.var.lt
  have hbb := HP.out.below.size
  have b6 := (HB4.out.trans ((But.refl _ _).drew.trans HB5.out)).trans (But.of_below hb6)
  refine ⟨by rw [← HNN.out.1, ← HNN.out.2.2.2.2], ⟨A5, c5, (HP5.out.below_ hb6).setRow (by omega) (by omega) _⟩, ⟨b6.os, b6.tape, b6.output, by rw [setRow_size]; exact b6.size, fun b hb hne => (Go.setRow_other _ _ _ _ (by omega)).trans (b6.block b hb hne)⟩⟩

set_option maxRecDepth 100000 in
set_option maxHeartbeats 4000000 in
theorem lead_high_fall (h : PIn B w pb n j A c ys) (hl : leaf.length = 32) (h2 : 2 ≤ size) (hz : size < 18446744073709551616) (hat : at_ < size) (ha : ¬ at_ < cutN size)
    (ih : ∀ w' : World, PIn B w' pb n j A c ys → Calls Tryd.prog 63 #[sv leaf, .int .u64 ((at_ - cutN size) : Nat), .int .u64 ((size - cutN size) : Nat), takes pb] w' fun e w'' => e = .panicked fell ∧ But (· = pb) w' w'') :
    Calls Tryd.prog 63 #[sv leaf, .int .u64 (at_ : Int), .int .u64 (size : Int), takes pb] w fun e w' => e = .panicked fell ∧ But (· = pb) w w' := by
  have e0 : (bvs zero32).toArray = #[.int .u8 0, .int .u8 0, .int .u8 0, .int .u8 0, .int .u8 0, .int .u8 0, .int .u8 0, .int .u8 0, .int .u8 0, .int .u8 0, .int .u8 0, .int .u8 0, .int .u8 0, .int .u8 0, .int .u8 0, .int .u8 0, .int .u8 0, .int .u8 0, .int .u8 0, .int .u8 0, .int .u8 0, .int .u8 0, .int .u8 0, .int .u8 0, .int .u8 0, .int .u8 0, .int .u8 0, .int .u8 0, .int .u8 0, .int .u8 0, .int .u8 0, .int .u8 0] := rfl
  have h1 := leadIn_of w leaf
  rw [e0] at h1
  clear e0
  have H1 := Lib.hid h1
  have hcl := cutN_lt h2
  have hcp := cutN_pos size
  obtain ⟨k, hk0⟩ : ∃ k, cutN size = k := ⟨_, rfl⟩
  rw [hk0] at hcl hcp ha ih
  obtain ⟨a, ha0⟩ : ∃ a, at_ - k = a := ⟨_, rfl⟩
  obtain ⟨m, hm0⟩ : ∃ m, size - k = m := ⟨_, rfl⟩
  rw [ha0, hm0] at ih
  have ea : IntKind.u64.wrap ((at_ : Int) - (k : Int)) = (a : Int) := by rw [IntKind.wrap_u64]; omega
  have em : IntKind.u64.wrap ((size : Int) - (k : Int)) = (m : Int) := by rw [IntKind.wrap_u64]; omega
  have hai : ¬ (at_ : Int) < (k : Int) := by omega
  have hs1 : ((size : Int) == 1) = false := by simp; omega
  have HP := Lib.hid h
  have IH := Lib.hid ih
  have HL := Lib.hid hl
  obtain ⟨w1, hw1⟩ : ∃ w1, w1 = (w.alloc (.cells (bvs leaf).toArray 29)).alloc (.cells #[.int .u8 0, .int .u8 0, .int .u8 0, .int .u8 0, .int .u8 0, .int .u8 0, .int .u8 0, .int .u8 0, .int .u8 0, .int .u8 0, .int .u8 0, .int .u8 0, .int .u8 0, .int .u8 0, .int .u8 0, .int .u8 0, .int .u8 0, .int .u8 0, .int .u8 0, .int .u8 0, .int .u8 0, .int .u8 0, .int .u8 0, .int .u8 0, .int .u8 0, .int .u8 0, .int .u8 0, .int .u8 0, .int .u8 0, .int .u8 0, .int .u8 0, .int .u8 0] 29) := ⟨_, rfl⟩
  rw [← hw1] at H1
  have HW := Lib.hid hw1
  have CM := Lib.hid (pleft_any size w1 h2 hz)
  rw [hk0] at CM
  have HX := Lib.hid (And.intro h2 (And.intro hz (And.intro hat (And.intro hcl (And.intro hcp hk0)))))
  clear h1 h ih h2 hz hat hcl hcp hk0 hw1 ha ha0 hm0
  unfold sv takes
  go_enter Tryd.func63, Tryd.ntmps63
  go_upto_region 1 with fail
  rw [← HW.out]
  go_wp2_with fail
  refine CM.out.mono ?_
  rintro e w2 ⟨rfl, rfl⟩
  have hA := Lib.hid H1.out.leaf.at_
  go_wp2_with (with_reducible refine wpList_load_sum rfl (.tmp 4) rfl ⟨w.heap.size, 0, none⟩ rfl leaf hl hA.out ?_)
  refine (IH.out w2 (HP.out.below_ H1.out.below)).mono ?_
  rintro e w3 ⟨rfl, hb3⟩
  go_wp2_with fail
  exact ⟨rfl, rfl, (But.of_below H1.out.below).trans hb3⟩

set_option maxRecDepth 100000 in
set_option maxHeartbeats 4000000 in
theorem lead_high_short {L : List Nat} {q : Nat} (h : PIn B w pb n j A c ys) (hl : leaf.length = 32) (h2 : 2 ≤ size) (hz : size < 18446744073709551616) (hat : at_ < size) (ha : ¬ at_ < cutN size)
    (ih : ∀ w' : World, PIn B w' pb n j A c ys → Calls Tryd.prog 63 #[sv leaf, .int .u64 ((at_ - cutN size) : Nat), .int .u64 ((size - cutN size) : Nat), takes pb] w' fun e w'' => e = .returned (sv L) ∧ (∃ A' c', PIn B w'' pb n q A' c' ys) ∧ But (· = pb) w' w'') (hL : L.length = 32) (hq : q = n) :
    Calls Tryd.prog 63 #[sv leaf, .int .u64 (at_ : Int), .int .u64 (size : Int), takes pb] w fun e w' => e = .panicked fell ∧ But (· = pb) w w' := by
  have e0 : (bvs zero32).toArray = #[.int .u8 0, .int .u8 0, .int .u8 0, .int .u8 0, .int .u8 0, .int .u8 0, .int .u8 0, .int .u8 0, .int .u8 0, .int .u8 0, .int .u8 0, .int .u8 0, .int .u8 0, .int .u8 0, .int .u8 0, .int .u8 0, .int .u8 0, .int .u8 0, .int .u8 0, .int .u8 0, .int .u8 0, .int .u8 0, .int .u8 0, .int .u8 0, .int .u8 0, .int .u8 0, .int .u8 0, .int .u8 0, .int .u8 0, .int .u8 0, .int .u8 0, .int .u8 0] := rfl
  have h1 := leadIn_of w leaf
  rw [e0] at h1
  clear e0
  have H1 := Lib.hid h1
  have hcl := cutN_lt h2
  have hcp := cutN_pos size
  obtain ⟨k, hk0⟩ : ∃ k, cutN size = k := ⟨_, rfl⟩
  rw [hk0] at hcl hcp ha ih
  obtain ⟨a, ha0⟩ : ∃ a, at_ - k = a := ⟨_, rfl⟩
  obtain ⟨m, hm0⟩ : ∃ m, size - k = m := ⟨_, rfl⟩
  rw [ha0, hm0] at ih
  have ea : IntKind.u64.wrap ((at_ : Int) - (k : Int)) = (a : Int) := by rw [IntKind.wrap_u64]; omega
  have em : IntKind.u64.wrap ((size : Int) - (k : Int)) = (m : Int) := by rw [IntKind.wrap_u64]; omega
  have hai : ¬ (at_ : Int) < (k : Int) := by omega
  have hs1 : ((size : Int) == 1) = false := by simp; omega
  have HP := Lib.hid h
  have IH := Lib.hid ih
  have HL := Lib.hid hl
  obtain ⟨w1, hw1⟩ : ∃ w1, w1 = (w.alloc (.cells (bvs leaf).toArray 29)).alloc (.cells #[.int .u8 0, .int .u8 0, .int .u8 0, .int .u8 0, .int .u8 0, .int .u8 0, .int .u8 0, .int .u8 0, .int .u8 0, .int .u8 0, .int .u8 0, .int .u8 0, .int .u8 0, .int .u8 0, .int .u8 0, .int .u8 0, .int .u8 0, .int .u8 0, .int .u8 0, .int .u8 0, .int .u8 0, .int .u8 0, .int .u8 0, .int .u8 0, .int .u8 0, .int .u8 0, .int .u8 0, .int .u8 0, .int .u8 0, .int .u8 0, .int .u8 0, .int .u8 0] 29) := ⟨_, rfl⟩
  rw [← hw1] at H1
  have HW := Lib.hid hw1
  have CM := Lib.hid (pleft_any size w1 h2 hz)
  rw [hk0] at CM
  have HX := Lib.hid (And.intro h2 (And.intro hz (And.intro hat (And.intro hcl (And.intro hcp hk0)))))
  have HLL := Lib.hid hL
  have HQ := Lib.hid hq
  clear h1 h ih h2 hz hat hcl hcp hk0 hw1 ha ha0 hm0 hL hq
  unfold sv takes
  go_enter Tryd.func63, Tryd.ntmps63
  go_upto_region 1 with fail
  rw [← HW.out]
  go_wp2_with fail
  refine CM.out.mono ?_
  rintro e w2 ⟨rfl, rfl⟩
  have hA := Lib.hid H1.out.leaf.at_
  go_wp2_with (with_reducible refine wpList_load_sum rfl (.tmp 4) rfl ⟨w.heap.size, 0, none⟩ rfl leaf hl hA.out ?_)
  refine (IH.out w2 (HP.out.below_ H1.out.below)).mono ?_
  rintro e w3 ⟨rfl, ⟨A3, c3, hp3⟩, hb3⟩
  have HP3 := Lib.hid hp3
  have HB3 := Lib.hid ((But.of_below H1.out.below).trans hb3)
  have hlt := HP.out.var.lt
  have hsz := H1.out.size
  have r3 : BArr w3 (w.heap.size + 1) 29 zero32 := (hb3.block _ H1.out.res.lt (by omega)).trans H1.out.res
  have HR3 := Lib.hid r3
  have HS3 := Lib.hid (And.intro hlt (And.intro hsz hb3.size))
  clear hp3 hb3 hlt hsz r3
  have hLl := HLL.out
  go_upto_region 8 with (with_reducible refine wpList_store_new w3 _ rfl rfl (.tmp 11) (.tmp 37) rfl rfl L hLl rfl ?_)
  have b4 := below_alloc w3 (.cells (bvs L).toArray 29)
  have g4 := BArr.new w3 29 L
  obtain ⟨w4, hw4⟩ : ∃ w4, w4 = w3.alloc (.cells (bvs L).toArray 29) := ⟨_, rfl⟩
  rw [← hw4] at b4 g4 ⊢
  have HP4 := Lib.hid (HP3.out.below_ b4)
  have HR4 := Lib.hid (HR3.out.below b4)
  have HB4 := Lib.hid (HB3.out.trans (But.of_below b4))
  have H4 := Lib.hid (And.intro b4 g4)
  clear hw4 b4 g4
  have hS : BArr w4.drew w3.heap.size 29 L := H4.out.2
  refine wp_region_held (S := fun W => BArr W w3.heap.size 29 L) (by kernel_rfl) ?_
  change wpAnyH _ _ _ _ _ _ _ _ w4.drew
  refine' wpAnyH_take (i := 0) (oi := _) (v := _) ?him (by kernel_rfl) ?hfm ?hrm ?hQm ?hym hS ?restm
  case him => (simp only [List.getElem?_toArray, List.getElem?_cons_zero]; rfl)
  case hfm => kernel_rfl
  case hrm => kernel_rfl
  case hQm => exact fun _ _ _ h => h
  case hym =>
    refine Or.inl ⟨by rfl, ?_⟩
    intro W hSw
    go_simp
    try with_reducible rfl
  simp only [Act.put, List.setIfInBounds_toArray, List.set_cons_zero, List.set_cons_succ]
  refine' wpAnyH_take (i := 2) (oi := _) (v := sv L) ?hil (by kernel_rfl) ?hfl ?hrl ?hQl ?hyl hS ?restl
  case hil => (simp only [List.getElem?_toArray, List.getElem?_cons_zero, List.getElem?_cons_succ]; rfl)
  case hfl => kernel_rfl
  case hrl => kernel_rfl
  case hQl => exact fun _ _ _ h => h
  case hyl =>
    refine Or.inl ⟨by rfl, ?_⟩
    intro W hSw
    exact run_at_sum (.tmp 11) (by rfl) ⟨w3.heap.size, 0, none⟩ (by rfl) L HLL.out hSw.at_
  simp only [Act.put, List.setIfInBounds_toArray, List.set_cons_zero, List.set_cons_succ]
  refine wpAnyH_ready (rs := [1]) (by kernel_rfl) (by simp) ?_
  refine' AllReadyH.cons (o := _) ?hin (fun K1 hK1 => ?_) AllReadyH.nil
  case hin => (simp only [List.getElem?_toArray, List.getElem?_cons_zero, List.getElem?_cons_succ]; rfl)
  rw [if_pos (by rfl)]
  go_simp
  refine (next_none (HP4.out.below_ ((Below.refl _ _).drew)) HQ.out).mono ?_
  rintro e w5 ⟨rfl, hb5⟩
  go_wp2
  exact ⟨rfl, rfl, HB4.out.trans ((But.refl _ _).drew.trans (But.of_below hb5))⟩

set_option maxRecDepth 100000 in
set_option maxHeartbeats 4000000 in
theorem lead_high_yes {L : List Nat} {q : Nat} (h : PIn B w pb n j A c ys) (hl : leaf.length = 32) (h2 : 2 ≤ size) (hz : size < 18446744073709551616) (hat : at_ < size) (ha : ¬ at_ < cutN size)
    (ih : ∀ w' : World, PIn B w' pb n j A c ys → Calls Tryd.prog 63 #[sv leaf, .int .u64 ((at_ - cutN size) : Nat), .int .u64 ((size - cutN size) : Nat), takes pb] w' fun e w'' => e = .returned (sv L) ∧ (∃ A' c', PIn B w'' pb n q A' c' ys) ∧ But (· = pb) w' w'') (hL : L.length = 32) (hLb : ∀ x ∈ L, x < 256) (hq : q < n) (hn : n ≤ 1000000) (hy : ∀ x ∈ ys, x < 256) (hlen : ys.length = 32 * n) (hk : Knows B) (hs : Starts B) :
    Calls Tryd.prog 63 #[sv leaf, .int .u64 (at_ : Int), .int .u64 (size : Int), takes pb] w fun e w' => e = .returned (sv (nodeL (nth ys q) L)) ∧ (∃ A' c', PIn B w' pb n (q + 1) A' c' ys) ∧ But (· = pb) w w' := by
  have e0 : (bvs zero32).toArray = #[.int .u8 0, .int .u8 0, .int .u8 0, .int .u8 0, .int .u8 0, .int .u8 0, .int .u8 0, .int .u8 0, .int .u8 0, .int .u8 0, .int .u8 0, .int .u8 0, .int .u8 0, .int .u8 0, .int .u8 0, .int .u8 0, .int .u8 0, .int .u8 0, .int .u8 0, .int .u8 0, .int .u8 0, .int .u8 0, .int .u8 0, .int .u8 0, .int .u8 0, .int .u8 0, .int .u8 0, .int .u8 0, .int .u8 0, .int .u8 0, .int .u8 0, .int .u8 0] := rfl
  have h1 := leadIn_of w leaf
  rw [e0] at h1
  clear e0
  have H1 := Lib.hid h1
  have hcl := cutN_lt h2
  have hcp := cutN_pos size
  obtain ⟨k, hk0⟩ : ∃ k, cutN size = k := ⟨_, rfl⟩
  rw [hk0] at hcl hcp ha ih
  obtain ⟨a, ha0⟩ : ∃ a, at_ - k = a := ⟨_, rfl⟩
  obtain ⟨m, hm0⟩ : ∃ m, size - k = m := ⟨_, rfl⟩
  rw [ha0, hm0] at ih
  have ea : IntKind.u64.wrap ((at_ : Int) - (k : Int)) = (a : Int) := by rw [IntKind.wrap_u64]; omega
  have em : IntKind.u64.wrap ((size : Int) - (k : Int)) = (m : Int) := by rw [IntKind.wrap_u64]; omega
  have hai : ¬ (at_ : Int) < (k : Int) := by omega
  have hs1 : ((size : Int) == 1) = false := by simp; omega
  have HP := Lib.hid h
  have IH := Lib.hid ih
  have HL := Lib.hid hl
  obtain ⟨w1, hw1⟩ : ∃ w1, w1 = (w.alloc (.cells (bvs leaf).toArray 29)).alloc (.cells #[.int .u8 0, .int .u8 0, .int .u8 0, .int .u8 0, .int .u8 0, .int .u8 0, .int .u8 0, .int .u8 0, .int .u8 0, .int .u8 0, .int .u8 0, .int .u8 0, .int .u8 0, .int .u8 0, .int .u8 0, .int .u8 0, .int .u8 0, .int .u8 0, .int .u8 0, .int .u8 0, .int .u8 0, .int .u8 0, .int .u8 0, .int .u8 0, .int .u8 0, .int .u8 0, .int .u8 0, .int .u8 0, .int .u8 0, .int .u8 0, .int .u8 0, .int .u8 0] 29) := ⟨_, rfl⟩
  rw [← hw1] at H1
  have HW := Lib.hid hw1
  have CM := Lib.hid (pleft_any size w1 h2 hz)
  rw [hk0] at CM
  have HX := Lib.hid (And.intro h2 (And.intro hz (And.intro hat (And.intro hcl (And.intro hcp hk0)))))
  have HLL := Lib.hid hL
  have HQ := Lib.hid (And.intro hLb (And.intro hq (And.intro hn (And.intro hy (And.intro hlen (And.intro hk hs))))))
  clear h1 h ih h2 hz hat hcl hcp hk0 hw1 ha ha0 hm0 hL hLb hq hn hy hlen hk hs
  unfold sv takes
  go_enter Tryd.func63, Tryd.ntmps63
  go_upto_region 1 with fail
  rw [← HW.out]
  go_wp2_with fail
  refine CM.out.mono ?_
  rintro e w2 ⟨rfl, rfl⟩
  have hA := Lib.hid H1.out.leaf.at_
  go_wp2_with (with_reducible refine wpList_load_sum rfl (.tmp 4) rfl ⟨w.heap.size, 0, none⟩ rfl leaf hl hA.out ?_)
  refine (IH.out w2 (HP.out.below_ H1.out.below)).mono ?_
  rintro e w3 ⟨rfl, ⟨A3, c3, hp3⟩, hb3⟩
  have HP3 := Lib.hid hp3
  have HB3 := Lib.hid ((But.of_below H1.out.below).trans hb3)
  have hlt := HP.out.var.lt
  have hsz := H1.out.size
  have r3 : BArr w3 (w.heap.size + 1) 29 zero32 := (hb3.block _ H1.out.res.lt (by omega)).trans H1.out.res
  have HR3 := Lib.hid r3
  have HS3 := Lib.hid (And.intro hlt (And.intro hsz hb3.size))
  clear hp3 hb3 hlt hsz r3
  have hLl := HLL.out
  go_upto_region 8 with (with_reducible refine wpList_store_new w3 _ rfl rfl (.tmp 11) (.tmp 37) rfl rfl L hLl rfl ?_)
  have b4 := below_alloc w3 (.cells (bvs L).toArray 29)
  have g4 := BArr.new w3 29 L
  obtain ⟨w4, hw4⟩ : ∃ w4, w4 = w3.alloc (.cells (bvs L).toArray 29) := ⟨_, rfl⟩
  rw [← hw4] at b4 g4 ⊢
  have HP4 := Lib.hid (HP3.out.below_ b4)
  have HR4 := Lib.hid (HR3.out.below b4)
  have HB4 := Lib.hid (HB3.out.trans (But.of_below b4))
  have H4 := Lib.hid (And.intro b4 g4)
  clear hw4 b4 g4
  have hS : BArr w4.drew w3.heap.size 29 L := H4.out.2
  refine wp_region_held (S := fun W => BArr W w3.heap.size 29 L) (by kernel_rfl) ?_
  change wpAnyH _ _ _ _ _ _ _ _ w4.drew
  refine' wpAnyH_take (i := 0) (oi := _) (v := _) ?him (by kernel_rfl) ?hfm ?hrm ?hQm ?hym hS ?restm
  case him => (simp only [List.getElem?_toArray, List.getElem?_cons_zero]; rfl)
  case hfm => kernel_rfl
  case hrm => kernel_rfl
  case hQm => exact fun _ _ _ h => h
  case hym =>
    refine Or.inl ⟨by rfl, ?_⟩
    intro W hSw
    go_simp
    try with_reducible rfl
  simp only [Act.put, List.setIfInBounds_toArray, List.set_cons_zero, List.set_cons_succ]
  refine' wpAnyH_take (i := 2) (oi := _) (v := sv L) ?hil (by kernel_rfl) ?hfl ?hrl ?hQl ?hyl hS ?restl
  case hil => (simp only [List.getElem?_toArray, List.getElem?_cons_zero, List.getElem?_cons_succ]; rfl)
  case hfl => kernel_rfl
  case hrl => kernel_rfl
  case hQl => exact fun _ _ _ h => h
  case hyl =>
    refine Or.inl ⟨by rfl, ?_⟩
    intro W hSw
    exact run_at_sum (.tmp 11) (by rfl) ⟨w3.heap.size, 0, none⟩ (by rfl) L HLL.out hSw.at_
  simp only [Act.put, List.setIfInBounds_toArray, List.set_cons_zero, List.set_cons_succ]
  refine wpAnyH_ready (rs := [1]) (by kernel_rfl) (by simp) ?_
  refine' AllReadyH.cons (o := _) ?hin (fun K1 hK1 => ?_) AllReadyH.nil
  case hin => (simp only [List.getElem?_toArray, List.getElem?_cons_zero, List.getElem?_cons_succ]; rfl)
  rw [if_pos (by rfl)]
  go_simp
  obtain ⟨s, hs0⟩ : ∃ s, nth ys q = s := ⟨_, rfl⟩
  have hsl : s.length = 32 := by rw [← hs0]; exact nth_length HQ.out.2.2.2.2.1 HQ.out.2.1
  have hsb : ∀ x ∈ s, x < 256 := by rw [← hs0]; exact nth_lt HQ.out.2.2.2.1 q
  obtain ⟨N, hN⟩ : ∃ N, nodeL s L = N := ⟨_, rfl⟩
  have hNl : N.length = 32 := by rw [← hN]; exact nodeL_length _ _
  have HNN := Lib.hid (And.intro hN (And.intro hNl (And.intro hsl (And.intro hsb hs0))))
  refine (next_some (HP4.out.below_ ((Below.refl _ _).drew)) HQ.out.2.1 HQ.out.2.2.1).mono ?_
  rw [hs0]
  clear hs0 hsl hsb hN hNl
  rintro e w5 ⟨rfl, ⟨A5, c5, hp5⟩, hb5⟩
  have g5 : BArr w5 w3.heap.size 29 L := (hb5.block _ H4.out.2.lt (by have := HS3.out; omega)).trans H4.out.2
  have r5 : BArr w5 (w.heap.size + 1) 29 zero32 := (hb5.block _ HR4.out.lt (by have := HS3.out; omega)).trans HR4.out
  have HP5 := Lib.hid hp5
  have HB5 := Lib.hid hb5
  have HR5 := Lib.hid r5
  clear hp5 hb5 r5
  refine hK1.out _ _ g5 (fun _ => ?_)
  clear hK1 K1
  refine wpAnyH_ready (rs := [3]) (by kernel_rfl) (by simp) ?_
  refine' AllReadyH.cons (o := _) ?hin2 (fun K2 hK2 => ?_) AllReadyH.nil
  case hin2 => (simp only [List.getElem?_toArray, List.getElem?_cons_zero, List.getElem?_cons_succ]; rfl)
  rw [if_pos (by rfl)]
  go_simp
  refine (node_any s L w5 HNN.out.2.2.1 HLL.out HNN.out.2.2.2.1 HQ.out.1 (HQ.out.2.2.2.2.2.1.below HP5.out.below) (HQ.out.2.2.2.2.2.2.below HP5.out.below)).mono ?_
  rintro e w6 ⟨rfl, hb6⟩
  rw [HNN.out.1]
  have g6 : BArr w6 w3.heap.size 29 L := g5.below hb6
  have r6 : BArr w6 (w.heap.size + 1) 29 zero32 := HR5.out.below hb6
  refine hK2.out _ _ g6 (fun _ => ?_)
  clear hK2 K2
  refine wpAnyH_ready (rs := [4]) (by kernel_rfl) (by simp) ?_
  refine' AllReadyH.cons (o := _) ?hin3 (fun K3 hK3 => ?_) AllReadyH.nil
  case hin3 => (simp only [List.getElem?_toArray, List.getElem?_cons_zero, List.getElem?_cons_succ]; rfl)
  rw [if_pos (by rfl)]
  refine step_store_sum (.tmp 8) (.tmp 41) rfl (w.heap.size + 1) rfl zero32 N rfl HNN.out.2.1 r6 rfl ?_
  refine hK3.out _ _ (g6.setRow_other _ (by have := HS3.out; omega) _) (fun _ => ?_)
  clear hK3 K3
  refine wpAnyH_done (by kernel_rfl) ?_ _
  go_wp2
  refine bodyPost_ret_by (results_cell_row (p := 8) (ty := 29) (by kernel_rfl) _ _ (w.heap.size + 1) 29 (bvs N).toArray (0, 0) _ rfl (r6.setRow _) Tryd.underlying29 rfl (by rw [List.size_toArray, bvs_length, HNN.out.2.1]; exact sizeSum)) rfl ?_
  have hlt := HP.out.var.lt
  have hbb := HP.out.below.size
  have b6 := (HB4.out.trans ((But.refl _ _).drew.trans HB5.out)).trans (But.of_below hb6)
  refine ⟨by rw [← HNN.out.1, ← HNN.out.2.2.2.2], ⟨A5, c5, (HP5.out.below_ hb6).setRow (by omega) (by omega) _⟩, ⟨b6.os, b6.tape, b6.output, by rw [setRow_size]; exact b6.size, fun b hb hne => (Go.setRow_other _ _ _ _ (by omega)).trans (b6.block b hb hne)⟩⟩

end

/-- How many sums lead takes: all are there, or not. -/
theorem lead_any {B : World} {pb n : Nat} {ys : List Nat} (hn : n ≤ 1000000) (hy : ∀ x ∈ ys, x < 256) (hlen : ys.length = 32 * n) (hk : Knows B) (hs : Starts B) :
    ∀ (size at_ j : Nat) (A : Option Addr) (c : Nat) (leaf : List Nat) (w : World), PIn B w pb n j A c ys → leaf.length = 32 → (∀ x ∈ leaf, x < 256) → size < 18446744073709551616 → at_ < size →
      (j + dep at_ size ≤ n → Calls Tryd.prog 63 #[sv leaf, .int .u64 (at_ : Int), .int .u64 (size : Int), takes pb] w fun e w' => e = .returned (sv (leadF (nth ys) leaf at_ size j)) ∧ (∃ A' c', PIn B w' pb n (j + dep at_ size) A' c' ys) ∧ But (· = pb) w w') ∧
      (n < j + dep at_ size → Calls Tryd.prog 63 #[sv leaf, .int .u64 (at_ : Int), .int .u64 (size : Int), takes pb] w fun e w' => e = .panicked fell ∧ But (· = pb) w w') := by
  intro size
  induction size using Nat.strongRecOn with
  | ind size ih =>
    intro at_ j A c leaf w h hl hb hz hat
    by_cases h2 : size < 2
    · obtain rfl : size = 1 := by omega
      rw [dep_one h2, leadF_one _ _ h2]
      refine ⟨fun _ => lead_one h hl, fun hh => ?_⟩
      have := h.le
      omega
    · have hcl := cutN_lt (m := size) (by omega)
      have hcp := cutN_pos size
      by_cases ha : at_ < cutN size
      · rw [dep_low (by omega) ha, leadF_low _ _ (by omega) ha, ← Nat.add_assoc]
        have IH := fun (w' : World) (h' : PIn B w' pb n j A c ys) => ih (cutN size) hcl at_ j A c leaf w' h' hl hb (by omega) ha
        refine ⟨fun hh => ?_, fun hh => ?_⟩
        · exact lead_low_yes h hl (by omega) hz hat ha (fun w' h' => (IH w' h').1 (by omega)) (leadF_length _ _ hl _ _ _) (leadF_lt _ _ hb _ _ _) (by omega) hn hy hlen hk hs
        · by_cases hq : j + dep at_ (cutN size) = n
          · exact lead_low_short h hl (by omega) hz hat ha (fun w' h' => (IH w' h').1 (by omega)) (leadF_length _ _ hl _ _ _) hq
          · exact lead_low_fall h hl (by omega) hz hat ha (fun w' h' => (IH w' h').2 (by omega))
      · rw [dep_high (by omega) ha, leadF_high _ _ (by omega) ha, ← Nat.add_assoc]
        have IH := fun (w' : World) (h' : PIn B w' pb n j A c ys) => ih (size - cutN size) (by omega) (at_ - cutN size) j A c leaf w' h' hl hb (by omega) (by omega)
        refine ⟨fun hh => ?_, fun hh => ?_⟩
        · exact lead_high_yes h hl (by omega) hz hat ha (fun w' h' => (IH w' h').1 (by omega)) (leadF_length _ _ hl _ _ _) (leadF_lt _ _ hb _ _ _) (by omega) hn hy hlen hk hs
        · by_cases hq : j + dep (at_ - cutN size) (size - cutN size) = n
          · exact lead_high_short h hl (by omega) hz hat ha (fun w' h' => (IH w' h').1 (by omega)) (leadF_length _ _ hl _ _ _) hq
          · exact lead_high_fall h hl (by omega) hz hat ha (fun w' h' => (IH w' h').2 (by omega))

end Go.Proofs.YtcekfnngnjpeeaaDoor

/-
  paths.end: what a path leads to, and whether it has just as many sums as are taken; a fall of what is below is caught.
-/
namespace Go.Proofs.YtcekfnngnjpeeaaDoor
open Go.RowKit

/-- The world in which end begins. -/
structure EndIn (w w1 : World) (leaf : List Nat) (A : Option Addr) (n c : Nat) : Prop where
  leaf : BArr w1 w.heap.size 29 leaf
  path : VarAt w1 (w.heap.size + 1) 33 (.slice A n c)
  res : BArr w1 (w.heap.size + 2) 29 zero32
  below : Below w.heap.size w w1
  size : w1.heap.size = w.heap.size + 3

theorem endIn_of (w : World) (leaf : List Nat) (A : Option Addr) (n c : Nat) : EndIn w (((w.alloc (.cells (bvs leaf).toArray 29)).alloc (.cells #[.slice A n c] 33)).alloc (.cells (bvs zero32).toArray 29)) leaf A n c := by
  have f0 := ((BArr.new w 29 leaf).alloc (.cells #[.slice A n c] 33)).alloc (.cells (bvs zero32).toArray 29)
  have f1 := (VarAt.new (w.alloc (.cells (bvs leaf).toArray 29)) 33 (.slice A n c)).below (below_alloc _ (.cells (bvs zero32).toArray 29))
  have f2 := BArr.new ((w.alloc (.cells (bvs leaf).toArray 29)).alloc (.cells #[.slice A n c] 33)) 29 zero32
  rw [World.size_alloc] at f1
  rw [World.size_alloc, World.size_alloc] at f2
  exact ⟨f0, f1, f2, ((below_alloc w _).alloc (by simp) _).alloc (by simp; omega) _, by simp⟩

/-- What the deferred closure makes of a frame that panics, of one that returns. -/
theorem catch_fell (w : World) : CallsD Tryd.prog 61 #[] (.panicking fell) w fun e u' w' => e = .returned (.tuple #[]) ∧ settle u' = .returning ∧ w' = w := by
  refine callsD_of_wpS Tryd.func61 rfl fun c₀ cs hu => ?_
  apply wpS_region
  simp [wpOpsS, go_sem, recoverD, hu, fell, Tryd.ntmps61, bodyPostS, results, Tryd.results61, settle]
theorem catch_idle (w : World) : CallsD Tryd.prog 61 #[] .returning w fun e u' w' => e = .returned (.tuple #[]) ∧ u' = .returning ∧ w' = w := by
  refine callsD_of_wpS Tryd.func61 rfl fun c₀ cs hu => ?_
  apply wpS_region
  simp [wpOpsS, go_sem, recoverD, hu, Tryd.ntmps61]
  cases c₀
  simp_all [bodyPostS, results, Tryd.results61]

section
variable {w : World} {n c : Nat} {A : Option Addr} {ys leaf : List Nat} {at_ size : Nat}

set_option maxRecDepth 100000 in
set_option maxHeartbeats 2000000 in
theorem end_no (hin : InS w A n ys) (hy : ∀ x ∈ ys, x < 256) (hc : n ≤ c) (hn : n ≤ 1000000) (hl : leaf.length = 32) (hb : ∀ x ∈ leaf, x < 256) (hz : size < 18446744073709551616) (hat : at_ < size) (hk : Knows w) (hs : Starts w) (hd : n < dep at_ size) :
    Calls Tryd.prog 40 #[sv leaf, .int .u64 (at_ : Int), .int .u64 (size : Int), .slice A n c] w fun e w' => e = .returned (.tuple #[sv zero32, .bool false]) ∧ Below w.heap.size w w' := by
  have e0 : (bvs zero32).toArray = #[.int .u8 0, .int .u8 0, .int .u8 0, .int .u8 0, .int .u8 0, .int .u8 0, .int .u8 0, .int .u8 0, .int .u8 0, .int .u8 0, .int .u8 0, .int .u8 0, .int .u8 0, .int .u8 0, .int .u8 0, .int .u8 0, .int .u8 0, .int .u8 0, .int .u8 0, .int .u8 0, .int .u8 0, .int .u8 0, .int .u8 0, .int .u8 0, .int .u8 0, .int .u8 0, .int .u8 0, .int .u8 0, .int .u8 0, .int .u8 0, .int .u8 0, .int .u8 0] := rfl
  have h1 := endIn_of w leaf A n c
  rw [e0] at h1
  clear e0
  obtain ⟨w1, hw1⟩ : ∃ w1, w1 = ((w.alloc (.cells (bvs leaf).toArray 29)).alloc (.cells #[.slice A n c] 33)).alloc (.cells #[.int .u8 0, .int .u8 0, .int .u8 0, .int .u8 0, .int .u8 0, .int .u8 0, .int .u8 0, .int .u8 0, .int .u8 0, .int .u8 0, .int .u8 0, .int .u8 0, .int .u8 0, .int .u8 0, .int .u8 0, .int .u8 0, .int .u8 0, .int .u8 0, .int .u8 0, .int .u8 0, .int .u8 0, .int .u8 0, .int .u8 0, .int .u8 0, .int .u8 0, .int .u8 0, .int .u8 0, .int .u8 0, .int .u8 0, .int .u8 0, .int .u8 0, .int .u8 0] 29) := ⟨_, rfl⟩
  rw [← hw1] at h1
  have H1 := Lib.hid h1
  have HW := Lib.hid hw1
  have p1 : PIn w w1 (w.heap.size + 1) n 0 A c ys := ⟨h1.path, hin, hc, Nat.zero_le _, h1.below, Nat.le_succ _⟩
  have CL := Lib.hid ((lead_any hn hy hin.len hk hs size at_ 0 A c leaf w1 p1 hl hb hz hat).2 (by omega))
  clear h1 hw1 p1 hin hc hn hy hb hz hat hk hs hd
  have hmf : ∀ (fn : Fn) (first cap : Array Value) (w : World), (Instr.makeFunc fn first cap).run Tryd.prog w = .ok (.func fn first cap) w := fun _ _ _ _ => rfl
  have hA := Lib.hid H1.out.leaf.at_
  unfold sv
  go_enter_defers Tryd.func40, Tryd.ntmps40
  go_upto_region 1 with fail
  rw [← HW.out]
  go_wp2_with (with_reducible refine wpList_load_sum rfl (.tmp 4) rfl ⟨w.heap.size, 0, none⟩ rfl leaf hl hA.out ?_)
  refine CL.out.mono ?_
  rintro e w3 ⟨rfl, hb3⟩
  go_wp2_with fail
  refine leaves_cons (f := 61) (args := #[]) (by simp) (by simp [go_sem]) ?_
  refine (catch_fell w3).mono ?_
  rintro e u' w4 ⟨rfl, hu, rfl⟩
  have r3 : BArr w4 (w.heap.size + 2) 29 zero32 := (hb3.block _ H1.out.res.lt (by omega)).trans H1.out.res
  simp only [hu]
  refine ⟨_, results_cell_tmp (p := 8) (q := 9) (ty := 29) (by kernel_rfl) _ _ ⟨w.heap.size + 2, 0, none⟩ (sv zero32) rfl (run_load_sum w4 _ zero32 rfl r3.at_), rfl, ?_⟩
  exact H1.out.below.trans (hb3.below (by have := H1.out.size; omega) (fun b e => by omega))

set_option maxRecDepth 100000 in
set_option maxHeartbeats 2000000 in
theorem end_yes (hin : InS w A n ys) (hy : ∀ x ∈ ys, x < 256) (hc : n ≤ c) (hn : n ≤ 1000000) (hl : leaf.length = 32) (hb : ∀ x ∈ leaf, x < 256) (hz : size < 18446744073709551616) (hat : at_ < size) (hk : Knows w) (hs : Starts w) (hd : dep at_ size ≤ n) :
    Calls Tryd.prog 40 #[sv leaf, .int .u64 (at_ : Int), .int .u64 (size : Int), .slice A n c] w fun e w' => e = .returned (.tuple #[sv (leadF (nth ys) leaf at_ size 0), .bool (decide (dep at_ size = n))]) ∧ Below w.heap.size w w' := by
  have e0 : (bvs zero32).toArray = #[.int .u8 0, .int .u8 0, .int .u8 0, .int .u8 0, .int .u8 0, .int .u8 0, .int .u8 0, .int .u8 0, .int .u8 0, .int .u8 0, .int .u8 0, .int .u8 0, .int .u8 0, .int .u8 0, .int .u8 0, .int .u8 0, .int .u8 0, .int .u8 0, .int .u8 0, .int .u8 0, .int .u8 0, .int .u8 0, .int .u8 0, .int .u8 0, .int .u8 0, .int .u8 0, .int .u8 0, .int .u8 0, .int .u8 0, .int .u8 0, .int .u8 0, .int .u8 0] := rfl
  have h1 := endIn_of w leaf A n c
  rw [e0] at h1
  clear e0
  obtain ⟨w1, hw1⟩ : ∃ w1, w1 = ((w.alloc (.cells (bvs leaf).toArray 29)).alloc (.cells #[.slice A n c] 33)).alloc (.cells #[.int .u8 0, .int .u8 0, .int .u8 0, .int .u8 0, .int .u8 0, .int .u8 0, .int .u8 0, .int .u8 0, .int .u8 0, .int .u8 0, .int .u8 0, .int .u8 0, .int .u8 0, .int .u8 0, .int .u8 0, .int .u8 0, .int .u8 0, .int .u8 0, .int .u8 0, .int .u8 0, .int .u8 0, .int .u8 0, .int .u8 0, .int .u8 0, .int .u8 0, .int .u8 0, .int .u8 0, .int .u8 0, .int .u8 0, .int .u8 0, .int .u8 0, .int .u8 0] 29) := ⟨_, rfl⟩
  rw [← hw1] at h1
  have H1 := Lib.hid h1
  have HW := Lib.hid hw1
  have p1 : PIn w w1 (w.heap.size + 1) n 0 A c ys := ⟨h1.path, hin, hc, Nat.zero_le _, h1.below, Nat.le_succ _⟩
  have CL := Lib.hid ((lead_any hn hy hin.len hk hs size at_ 0 A c leaf w1 p1 hl hb hz hat).1 (by omega))
  obtain ⟨s, hs0⟩ : ∃ s, leadF (nth ys) leaf at_ size 0 = s := ⟨_, rfl⟩
  have hsl : s.length = 32 := by rw [← hs0]; exact leadF_length _ _ hl _ _ _
  rw [hs0] at CL ⊢
  obtain ⟨m, hm⟩ : ∃ m, n - dep at_ size = m := ⟨_, rfl⟩
  obtain ⟨b, hb0⟩ : ∃ b, decide (dep at_ size = n) = b := ⟨_, rfl⟩
  have hmb : ((m : Int) == 0) = b := by
    rw [← hb0]
    by_cases he : dep at_ size = n
    · have : m = 0 := by omega
      simp [he, this]
    · have : ¬ m = 0 := by omega
      simp [he, this]
  rw [Nat.zero_add] at CL
  rw [hb0]
  have HX := Lib.hid (And.intro hm hd)
  clear h1 hw1 p1 hin hc hn hy hb hz hat hk hs hd hs0 hm hb0
  have hmf : ∀ (fn : Fn) (first cap : Array Value) (w : World), (Instr.makeFunc fn first cap).run Tryd.prog w = .ok (.func fn first cap) w := fun _ _ _ _ => rfl
  have hA := Lib.hid H1.out.leaf.at_
  have HZ32 := Lib.hid (show zero32.length = 32 from rfl)
  unfold sv
  go_enter_defers Tryd.func40, Tryd.ntmps40
  go_upto_region 1 with fail
  rw [← HW.out]
  go_wp2_with (with_reducible refine wpList_load_sum rfl (.tmp 4) rfl ⟨w.heap.size, 0, none⟩ rfl leaf hl hA.out ?_)
  refine CL.out.mono ?_
  rintro e w3 ⟨rfl, ⟨A3, c3, hp3⟩, hb3⟩
  have r3 : BArr w3 (w.heap.size + 2) 29 zero32 := (hb3.block _ H1.out.res.lt (by omega)).trans H1.out.res
  have HP3 := Lib.hid hp3
  have HB3 := Lib.hid (H1.out.below.trans (hb3.below (by have := H1.out.size; omega) (fun b e => by omega)))
  clear hp3 hb3
  go_upto_region 4 with (with_reducible refine wpList_store_sum rfl (.tmp 8) (.tmp 16) rfl (w.heap.size + 2) rfl zero32 s HZ32 hsl r3 rfl ?_)
  have r4 : BArr (w3.setRow (w.heap.size + 2) (bvs s).toArray) (w.heap.size + 2) 29 s := r3.setRow s
  have v4 := HP3.out.var.setRow_other (w.heap.size + 2) (by omega) (bvs s).toArray
  rw [HX.out.1] at v4
  have b4 : Below w.heap.size w (w3.setRow (w.heap.size + 2) (bvs s).toArray) := below_setRow HB3.out (by omega) _
  obtain ⟨w4, hw4⟩ : ∃ w4, w4 = w3.setRow (w.heap.size + 2) (bvs s).toArray := ⟨_, rfl⟩
  rw [← hw4] at r4 v4 b4 ⊢
  clear hw4 r3
  have hS : BArr w4.drew (w.heap.size + 2) 29 s ∧ VarAt w4.drew (w.heap.size + 1) 33 (.slice A3 m c3) := ⟨r4, v4⟩
  have HB4 := Lib.hid b4
  clear b4
  refine wp_region_noPanic ?_
  refine wp_region_held (S := fun W => BArr W (w.heap.size + 2) 29 s ∧ VarAt W (w.heap.size + 1) 33 (.slice A3 m c3)) (by kernel_rfl) ?_
  change wpAnyH _ _ _ _ _ _ _ _ w4.drew
  refine' wpAnyH_take (i := 0) (oi := _) (v := sv s) ?hi0 (by kernel_rfl) ?hf0 ?hr0 ?hQ0 ?hy0 hS ?rest0
  case hi0 => (simp only [List.getElem?_toArray, List.getElem?_cons_zero]; rfl)
  case hf0 => kernel_rfl
  case hr0 => kernel_rfl
  case hQ0 => exact fun _ _ _ h => h.elim
  case hy0 =>
    refine Or.inl ⟨by rfl, ?_⟩
    intro W hSw
    exact run_at_sum (.tmp 8) (by rfl) ⟨w.heap.size + 2, 0, none⟩ (by rfl) s hsl hSw.1.at_
  simp only [Act.put, List.setIfInBounds_toArray, List.set_cons_zero, List.set_cons_succ]
  refine' wpAnyH_take (i := 1) (oi := _) (v := _) ?hi1 (by kernel_rfl) ?hf1 ?hr1 ?hQ1 ?hy1 hS ?rest1
  case hi1 => (simp only [List.getElem?_toArray, List.getElem?_cons_zero, List.getElem?_cons_succ]; rfl)
  case hf1 => kernel_rfl
  case hr1 => kernel_rfl
  case hQ1 => exact fun _ _ _ h => h.elim
  case hy1 =>
    refine Or.inl ⟨by rfl, ?_⟩
    intro W hSw
    have s0 := hSw.2.cell
    go_simp
    try with_reducible rfl
  simp only [Act.put, List.setIfInBounds_toArray, List.set_cons_zero, List.set_cons_succ]
  refine' wpAnyH_take (i := 2) (oi := _) (v := _) ?hi2 (by kernel_rfl) ?hf2 ?hr2 ?hQ2 ?hy2 hS ?rest2
  case hi2 => (simp only [List.getElem?_toArray, List.getElem?_cons_zero, List.getElem?_cons_succ]; rfl)
  case hf2 => kernel_rfl
  case hr2 => kernel_rfl
  case hQ2 => exact fun _ _ _ h => h.elim
  case hy2 =>
    refine Or.inl ⟨by rfl, ?_⟩
    intro W hSw
    have s0 := hSw.2.cell
    go_simp
    try with_reducible rfl
  simp only [Act.put, List.setIfInBounds_toArray, List.set_cons_zero, List.set_cons_succ]
  refine' wpAnyH_take (i := 3) (oi := _) (v := _) ?hi3 (by kernel_rfl) ?hf3 ?hr3 ?hQ3 ?hy3 hS ?rest3
  case hi3 => (simp only [List.getElem?_toArray, List.getElem?_cons_zero, List.getElem?_cons_succ]; rfl)
  case hf3 => kernel_rfl
  case hr3 => kernel_rfl
  case hQ3 => exact fun _ _ _ h => h.elim
  case hy3 =>
    refine Or.inl ⟨by rfl, ?_⟩
    intro W hSw
    have s0 := hSw.2.cell
    go_simp
    try with_reducible rfl
  simp only [Act.put, List.setIfInBounds_toArray, List.set_cons_zero, List.set_cons_succ]
  refine wpAnyH_ready (rs := [4]) (by kernel_rfl) (by simp) ?_
  refine' AllReadyH.cons (o := _) ?hin3 (fun K3 hK3 => ?_) AllReadyH.nil
  case hin3 => (simp only [List.getElem?_toArray, List.getElem?_cons_zero, List.getElem?_cons_succ]; rfl)
  rw [if_pos (by rfl)]
  refine step_store_sum (.tmp 8) (.tmp 17) rfl (w.heap.size + 2) rfl s s hsl hsl hS.1 rfl ?_
  have r5 : BArr (w4.drew.setRow (w.heap.size + 2) (bvs s).toArray) (w.heap.size + 2) 29 s := hS.1.setRow s
  have b5 : Below w.heap.size w (w4.drew.setRow (w.heap.size + 2) (bvs s).toArray) := below_setRow HB4.out.drew (by omega) _
  have hS5 : BArr (w4.drew.setRow (w.heap.size + 2) (bvs s).toArray) (w.heap.size + 2) 29 s ∧ VarAt (w4.drew.setRow (w.heap.size + 2) (bvs s).toArray) (w.heap.size + 1) 33 (.slice A3 m c3) := ⟨r5, hS.2.setRow_other _ (by omega) _⟩
  obtain ⟨w5, hw5⟩ : ∃ w5, w5 = w4.drew.setRow (w.heap.size + 2) (bvs s).toArray := ⟨_, rfl⟩
  rw [← hw5] at r5 b5 hS5 ⊢
  refine hK3.out _ _ hS5 (fun _ => ?_)
  clear hK3 K3 hw5
  refine' wpAnyH_take (i := 5) (oi := _) (v := _) ?hi5 (by kernel_rfl) ?hf5 ?hr5 ?hQ5 ?hy5 hS5 ?rest5
  case hi5 => (simp only [List.getElem?_toArray, List.getElem?_cons_zero, List.getElem?_cons_succ]; rfl)
  case hf5 => kernel_rfl
  case hr5 => kernel_rfl
  case hQ5 => exact fun _ _ _ h => h.elim
  case hy5 =>
    refine Or.inl ⟨by rfl, ?_⟩
    intro W hSw
    have s0 := hSw.2.cell
    go_simp
    try with_reducible rfl
  simp only [Act.put, List.setIfInBounds_toArray, List.set_cons_zero, List.set_cons_succ]
  refine wpAnyH_done (by kernel_rfl) ?_ _
  show NoPanic _ _ _ _
  refine NoPanic.normal ?_
  go_wp2
  refine leaves_cons (f := 61) (args := #[]) (by simp) (by simp [go_sem]) ?_
  refine (catch_idle w5).mono ?_
  rintro e u' w6 ⟨rfl, rfl, rfl⟩
  exact ⟨_, results_cell_tmp (p := 8) (q := 9) (ty := 29) (by kernel_rfl) _ _ ⟨w.heap.size + 2, 0, none⟩ (sv s) rfl (run_load_sum w6 _ s hsl r5.at_), rfl, b5⟩

end

end Go.Proofs.YtcekfnngnjpeeaaDoor

/-
  paths.Check.
-/
namespace Go.Proofs.YtcekfnngnjpeeaaDoor
open Go.RowKit

/-- The world in which Check begins. -/
structure CheckIn (w w1 : World) (leaf root : List Nat) : Prop where
  leaf : BArr w1 w.heap.size 29 leaf
  root : BArr w1 (w.heap.size + 1) 29 root
  below : Below w.heap.size w w1
  size : w1.heap.size = w.heap.size + 2

theorem checkIn_of (w : World) (leaf root : List Nat) : CheckIn w ((w.alloc (.cells (bvs leaf).toArray 29)).alloc (.cells (bvs root).toArray 29)) leaf root := by
  have f0 := (BArr.new w 29 leaf).alloc (.cells (bvs root).toArray 29)
  have f1 := BArr.new (w.alloc (.cells (bvs leaf).toArray 29)) 29 root
  rw [World.size_alloc] at f1
  exact ⟨f0, f1, (below_alloc w _).alloc (by simp) _, by simp⟩

section
variable {w : World} {n c : Nat} {A : Option Addr} {ys leaf root : List Nat} {at_ size : Nat}

set_option maxRecDepth 100000 in
set_option maxHeartbeats 2000000 in
theorem check_far (hge : size ≤ at_) :
    Calls Tryd.prog 18 #[sv leaf, .int .u64 (at_ : Int), .int .u64 (size : Int), .slice A n c, sv root] w fun e w' => e = .returned (.bool false) ∧ Below w.heap.size w w' := by
  have H1 := Lib.hid (checkIn_of w leaf root)
  have hi : (size : Int) ≤ (at_ : Int) := by omega
  unfold sv
  go_enter Tryd.func18, Tryd.ntmps18
  go_wp2_with fail
  go_ret
  exact ⟨rfl, H1.out.below⟩

set_option maxRecDepth 100000 in
set_option maxHeartbeats 2000000 in
theorem check_at (b : Bool) (s : List Nat) (hsl : s.length = 32) (hl : leaf.length = 32) (hr : root.length = 32) (hlt : at_ < size)
    (ce : ∀ w' : World, Below w.heap.size w w' → Calls Tryd.prog 40 #[sv leaf, .int .u64 (at_ : Int), .int .u64 (size : Int), .slice A n c] w' fun e w'' => e = .returned (.tuple #[sv s, .bool b]) ∧ Below w'.heap.size w' w'') :
    Calls Tryd.prog 18 #[sv leaf, .int .u64 (at_ : Int), .int .u64 (size : Int), .slice A n c, sv root] w fun e w' => e = .returned (.bool (b && decide (s = root))) ∧ Below w.heap.size w w' := by
  have e0 : (bvs zero32).toArray = #[.int .u8 0, .int .u8 0, .int .u8 0, .int .u8 0, .int .u8 0, .int .u8 0, .int .u8 0, .int .u8 0, .int .u8 0, .int .u8 0, .int .u8 0, .int .u8 0, .int .u8 0, .int .u8 0, .int .u8 0, .int .u8 0, .int .u8 0, .int .u8 0, .int .u8 0, .int .u8 0, .int .u8 0, .int .u8 0, .int .u8 0, .int .u8 0, .int .u8 0, .int .u8 0, .int .u8 0, .int .u8 0, .int .u8 0, .int .u8 0, .int .u8 0, .int .u8 0] := rfl
  obtain ⟨w1, hw1⟩ : ∃ w1, w1 = (w.alloc (.cells (bvs leaf).toArray 29)).alloc (.cells (bvs root).toArray 29) := ⟨_, rfl⟩
  have h1 := checkIn_of w leaf root
  rw [← hw1] at h1
  have H1 := Lib.hid h1
  have HW := Lib.hid hw1
  have CE := Lib.hid (ce w1 h1.below)
  have hi : ¬ (size : Int) ≤ (at_ : Int) := by omega
  have hA := Lib.hid h1.leaf.at_
  have HR := Lib.hid hr
  clear h1 hw1 ce hlt e0 hr
  unfold sv
  go_enter Tryd.func18, Tryd.ntmps18
  go_upto_region 1 with fail
  rw [← HW.out]
  go_wp2_with (with_reducible refine wpList_load_sum rfl (.tmp 5) rfl ⟨w.heap.size, 0, none⟩ rfl leaf hl hA.out ?_)
  refine CE.out.mono ?_
  rintro e w2 ⟨rfl, hb2⟩
  go_upto_region 4 with (with_reducible refine wpList_store_new w2 _ rfl rfl (.tmp 11) (.tmp 22) rfl rfl s hsl rfl ?_)
  have b3 := below_alloc w2 (.cells (bvs s).toArray 29)
  have g3 := BArr.new w2 29 s
  obtain ⟨w3, hw3⟩ : ∃ w3, w3 = w2.alloc (.cells (bvs s).toArray 29) := ⟨_, rfl⟩
  rw [← hw3] at b3 g3 ⊢
  clear hw3
  have gr := Lib.hid ((H1.out.root.below hb2).below b3).at_
  have gs := Lib.hid g3.at_
  have HB := Lib.hid ((below_on H1.out.below (Nat.le_refl _) hb2).trans (b3.mono (below_on H1.out.below (Nat.le_refl _) hb2).size))
  have hrl := HR.out
  have q1 := run_eql_sum s root hsl hrl
  have q2 := fun x y => run_guard_eql x y s root
  clear b3 g3 hb2
  cases b
  · go_wp2_with fail
    go_ret
    exact ⟨rfl, HB.out⟩
  · go_wp2_with (first | with_reducible refine wpList_load_sum_g rfl (.tmp 11) rfl ⟨w2.heap.size, 0, none⟩ rfl s hsl gs.out ?_ | with_reducible refine wpList_load_sum_g rfl (.tmp 9) rfl ⟨w.heap.size + 1, 0, none⟩ rfl root hrl gr.out ?_)
    go_ret
    exact ⟨rfl, HB.out⟩

/-- Whether the leaf at a place is in a tree of so many leaves, by that path. -/
def inTree (ys leaf root : List Nat) (n at_ size : Nat) : Bool := decide (at_ < size) && (decide (dep at_ size = n) && decide (leadF (nth ys) leaf at_ size 0 = root))

theorem check_any (hin : InS w A n ys) (hy : ∀ x ∈ ys, x < 256) (hc : n ≤ c) (hn : n ≤ 1000000) (hl : leaf.length = 32) (hb : ∀ x ∈ leaf, x < 256) (hr : root.length = 32) (hz : size < 18446744073709551616) (hk : Knows w) (hs : Starts w) :
    Calls Tryd.prog 18 #[sv leaf, .int .u64 (at_ : Int), .int .u64 (size : Int), .slice A n c, sv root] w fun e w' => e = .returned (.bool (inTree ys leaf root n at_ size)) ∧ Below w.heap.size w w' := by
  unfold inTree
  by_cases hat : at_ < size
  · rw [decide_eq_true hat, Bool.true_and]
    by_cases hd : dep at_ size ≤ n
    · exact check_at _ _ (leadF_length _ _ hl _ _ _) hl hr hat fun w' hb' => end_yes (hin.below hb') hy hc hn hl hb hz hat (hk.below hb') (hs.below hb') hd
    · rw [decide_eq_false (p := dep at_ size = n) (by omega), Bool.false_and]
      have := check_at (w := w) (n := n) (c := c) (A := A) false zero32 rfl hl hr hat fun w' hb' => end_no (hin.below hb') hy hc hn hl hb hz hat (hk.below hb') (hs.below hb') (by omega)
      rwa [Bool.false_and] at this
  · rw [decide_eq_false hat, Bool.false_and]
    exact check_far (by omega)
end

end Go.Proofs.YtcekfnngnjpeeaaDoor

/-
  clashes.Path.
-/
namespace Go.Proofs.YtcekfnngnjpeeaaDoor
open Go.RowKit

/-- Does a path tell one? -/
def pathB (R : List (List Nat)) (b ys : List Nat) (q k : Nat) : Bool := !decide (R[k]? = some b) && inTree ys (leafL b) (rtl R) q k R.length
theorem inTree_true {ys leaf root : List Nat} {n k size : Nat} (h : inTree ys leaf root n k size = true) : n = dep k size ∧ root = leadF (nth ys) leaf k size 0 := by
  simp [inTree] at h
  exact ⟨h.2.1.symm, h.2.2.symm⟩
theorem nth_eqR {R : List (List Nat)} {k : Nat} {xs b : List Nat} (h : R[k]? = some xs) : decide (R[k]? = some b) = decide (xs = b) := by
  rw [h]
  exact decide_eq_decide.2 ⟨fun e => by cases e; rfl, fun e => by rw [e]⟩

section
variable {w : World} {A B P : Option Addr} {n m q c d r k : Nat} {R : List (List Nat)} {b ys : List Nat}

set_option maxRecDepth 100000 in
set_option maxHeartbeats 2000000 in
theorem path1_any {g : Nat} (vl : VarAt w g 31 (.slice A n c)) (va : VarAt w (g + 1) 3 (.int .i64 (k : Int))) (vb : VarAt w (g + 2) 22 (.slice B m d)) (vp : VarAt w (g + 3) 33 (.slice P q r))
    (E1 : Ent w A n c R) (hk : k < n) (hB : Came w B m d b) (hm : m ≤ 20000) (hI : InS w P q ys) (hy : ∀ x ∈ ys, x < 256) (hqr : q ≤ r) (hkn : Knows w) (hks : Starts w) (hn : n ≤ 60000)
    (hne : ¬ R[k]? = some b) (hin : inTree ys (leafL b) (rtl R) q k n = true) :
    Calls Tryd.prog 38 #[.pointer (some ⟨g, 0, none⟩), .pointer (some ⟨g + 1, 0, none⟩), .pointer (some ⟨g + 2, 0, none⟩), .pointer (some ⟨g + 3, 0, none⟩)] w fun e w' => (∃ u, e = .panicked (tells u) ∧ Shown w.heap.size w' u) ∧ Below w.heap.size w w' := by
  obtain ⟨h1, h2⟩ := inTree_true hin
  obtain ⟨adA, rfl⟩ := E1.some_ (by omega)
  have CD := Lib.hid (dpath_any hm n w adA P c q k R ys E1 hB hI hy hqr h1 hk hkn hks hn)
  have c0 := vl.cell
  have c1 := va.cell
  have c2 := vb.cell
  have c3 := vp.cell
  have HN := Lib.hid (And.intro hne h2)
  clear vl va vb vp E1 hk hB hm hI hy hqr hkn hks hn hne hin h1 h2
  go_enter Tryd.func38, Tryd.ntmps38
  go_wp2_with fail
  refine CD.out.mono ?_
  rintro e w' ⟨hT, hb⟩
  rcases hT with ⟨_, h⟩ | ⟨u, rfl, hu⟩
  · exact absurd (h HN.out.2) HN.out.1
  · have HU := Lib.hid (And.intro hu hb)
    clear hu hb
    go_wp2_with fail
    exact ⟨rfl, ⟨u, rfl, HU.out.1⟩, HU.out.2⟩

set_option maxRecDepth 100000 in
set_option maxHeartbeats 8000000 in
theorem path_nocheck (E1 : Ent w A n c R) (hk : k < n) (hn : n ≤ 60000) (hB : Came w B m d b) (hm : m ≤ 20000) (hI : InS w P q ys) (hy : ∀ x ∈ ys, x < 256) (hqr : q ≤ r) (hq : q ≤ 1000000) (hkn : Knows w) (hks : Starts w) (hne : ¬ R[k]? = some b) (hin : inTree ys (leafL b) (rtl R) q k n = false) :
    Calls Tryd.prog 17 #[.slice A n c, .int .i64 (k : Int), .slice B m d, .slice P q r] w fun e w' => Tells w.heap.size false e w' ∧ Below w.heap.size w w' := by
  obtain ⟨g, hg⟩ : ∃ g, w.heap.size = g := ⟨_, rfl⟩
  have hz0 := PathIn.mk_ w g (.slice A n c) (.int .i64 (k : Int)) (.slice B m d) (.slice P q r) hg
  obtain ⟨wz, hwz⟩ : ∃ x, x = (((((w.alloc (.cells #[.slice A n c] 31)).alloc (.cells #[.int .i64 (k : Int)] 3)).alloc (.cells #[.slice B m d] 22)).alloc (.cells #[.slice P q r] 33)).alloc (.cells #[.slice none 0 0, .slice none 0 0] 24)) := ⟨_, rfl⟩
  rw [← hwz] at hz0
  have HW := Lib.hid hwz
  have HG := Lib.hid hg
  have HZ := Lib.hid hz0
  have b0z : Below w.heap.size w wz := by rw [hg]; exact hz0.below
  have HC1 := Lib.hid (fun (W : World) (hW : Below wz.heap.size wz W) => show W.cell? ⟨g + 1, 0, none⟩ = some (.int .i64 (k : Int)) from (hz0.at_.below hW).cell)
  have HC2 := Lib.hid (fun (W : World) (hW : Below wz.heap.size wz W) => show W.cell? ⟨g + 2, 0, none⟩ = some (.slice B m d) from (hz0.b.below hW).cell)
  have HC3 := Lib.hid (fun (W : World) (hW : Below wz.heap.size wz W) => show W.cell? ⟨g + 3, 0, none⟩ = some (.slice P q r) from (hz0.path.below hW).cell)
  obtain ⟨ad, X, kx, qx, xs, rfl, hxs, hcx, hX, kxl⟩ := E1.at_ hk
  have hlt := World.block_lt_of_cell? w _ hcx
  have HCE := Lib.hid (fun (W : World) (hW : Below wz.heap.size wz W) => show W.cell? (ad.add k) = some (.slice X kx qx) from ((below_on b0z (Nat.le_refl _) hW).cell hlt).trans hcx)
  have CE := Lib.hid (fun (W : World) (hW : Below wz.heap.size wz W) => show Calls Tryd.prog 24 #[.slice X kx qx, .slice B m d] W fun e w' => e = .returned (.bool false) ∧ Below W.heap.size W w' from
    (equal_any (hX.below (below_on b0z (Nat.le_refl _) hW)) (hB.below (below_on b0z (Nat.le_refl _) hW))).mono fun e w' ⟨he, h⟩ => ⟨by rw [he, decide_eq_false (show ¬ xs = b from fun e => hne (by rw [hxs, e]))], by rw [h]; exact Below.refl _ _⟩)
  have HC0 := Lib.hid (fun (W : World) (hW : Below wz.heap.size wz W) => show W.cell? ⟨g, 0, none⟩ = some (.slice (some ad) n c) from (hz0.l.below hW).cell)
  obtain ⟨lb, hlb⟩ : ∃ x, leafL b = x := ⟨_, rfl⟩
  have lbl : lb.length = 32 := by rw [← hlb]; exact leafL_length _
  obtain ⟨rr, hrr⟩ : ∃ x, rtl R = x := ⟨_, rfl⟩
  have rrl : rr.length = 32 := by rw [← hrr]; exact rtl_length _
  have CLF := Lib.hid (fun (W : World) (hW : Below w.heap.size w W) => show Calls Tryd.prog 19 #[.slice B m d] W fun e w' => e = .returned (sv lb) ∧ Below W.heap.size W w' from by
    rw [← hlb]; exact leaf_any B m d b W (hB.below hW) (hkn.below hW) (hks.below hW) (by omega))
  have CRT := Lib.hid (fun (W : World) (hW : Below w.heap.size w W) => show Calls Tryd.prog 30 #[.slice (some ad) n c] W fun e w' => e = .returned (sv rr) ∧ Below W.heap.size W w' from by
    rw [← hrr]; exact croot_any (E1.below hW) hn (hkn.below hW) (hks.below hW))
  have CCK := Lib.hid (fun (W : World) (hW : Below w.heap.size w W) => show Calls Tryd.prog 18 #[sv lb, .int .u64 (k : Int), .int .u64 (n : Int), .slice P q r, sv rr] W fun e w' => e = .returned (.bool false) ∧ Below W.heap.size W w' from by
    rw [← hin, ← hlb, ← hrr]; exact check_any (at_ := k) (size := n) (hI.below hW) hy hqr (by omega) (leafL_length _) (leafL_lt _) (rtl_length _) (by omega) (hkn.below hW) (hks.below hW))
  have HKA := Lib.hid (And.intro E1 (And.intro hB (And.intro hI (And.intro hy (And.intro hkn (And.intro hks (And.intro hne hin)))))))
  have hzi : ¬ ((k : Int) < 0) := by omega
  have hzj : ¬ ((n : Int) ≤ (k : Int)) := by omega
  have hzk : (k : Int) < (n : Int) := by omega
  have HB0 := Lib.hid b0z
  clear hxs hcx hX hlt kxl E1 hB hI hy hkn hks hne hin hlb hrr
  rw [hg]
  clear hz0 hwz hg b0z
  go_enter Tryd.func17, Tryd.ntmps17
  go_upto_region 1 with fail
  rw [← HW.out]
  rw [HG.out]
  have hSk1 : Below wz.heap.size wz wz.drew := (Below.refl _ _).drew
  refine wp_region_held_drew (S := fun W => Below wz.heap.size wz W) (by kernel_rfl) (hSk1) (fun _ => ?_)
  change wpAnyH _ _ _ _ _ _ _ _ wz.drew
  generalize wz.drew = Wk2 at hSk1 ⊢
  refine' wpAnyH_take (i := 0) (oi := _) (v := _) ?hik3 (by kernel_rfl) ?hfk3 ?hrk3 ?hQk3 ?hyk3 (hSk1) ?restk3
  case hik3 => (simp only [List.getElem?_toArray, List.getElem?_cons_zero]; rfl)
  case hfk3 => kernel_rfl
  case hrk3 => kernel_rfl
  case hQk3 => exact fun _ _ _ h => h
  case hyk3 => refine Or.inl ⟨by rfl, ?_⟩; intro W hSw; have hcc := HC1.out W hSw; go_simp; try with_reducible rfl
  try simp only [Act.put, List.setIfInBounds_toArray, List.set_cons_zero, List.set_cons_succ]
  refine' wpAnyH_take (i := 1) (oi := _) (v := _) ?hik4 (by kernel_rfl) ?hfk4 ?hrk4 ?hQk4 ?hyk4 (hSk1) ?restk4
  case hik4 => (simp only [List.getElem?_toArray, List.getElem?_cons_zero, List.getElem?_cons_succ]; rfl)
  case hfk4 => kernel_rfl
  case hrk4 => kernel_rfl
  case hQk4 => exact fun _ _ _ h => h
  case hyk4 => refine Or.inl ⟨by rfl, ?_⟩; intro W hSw; go_simp; try with_reducible rfl
  try simp only [Act.put, List.setIfInBounds_toArray, List.set_cons_zero, List.set_cons_succ]
  refine' wpAnyH_take (i := 2) (oi := _) (v := _) ?hik5 (by kernel_rfl) ?hfk5 ?hrk5 ?hQk5 ?hyk5 (hSk1) ?restk5
  case hik5 => (simp only [List.getElem?_toArray, List.getElem?_cons_zero, List.getElem?_cons_succ]; rfl)
  case hfk5 => kernel_rfl
  case hrk5 => kernel_rfl
  case hQk5 => exact fun _ _ _ h => h
  case hyk5 => refine Or.inl ⟨by rfl, ?_⟩; intro W hSw; go_simp; try with_reducible rfl
  try simp only [Act.put, List.setIfInBounds_toArray, List.set_cons_zero, List.set_cons_succ]
  refine' wpAnyH_take (i := 3) (oi := _) (v := _) ?hik6 (by kernel_rfl) ?hfk6 ?hrk6 ?hQk6 ?hyk6 (hSk1) ?restk6
  case hik6 => (simp only [List.getElem?_toArray, List.getElem?_cons_zero, List.getElem?_cons_succ]; rfl)
  case hfk6 => kernel_rfl
  case hrk6 => kernel_rfl
  case hQk6 => exact fun _ _ _ h => h
  case hyk6 => refine Or.inl ⟨by rfl, ?_⟩; intro W hSw; have hcc := HC1.out W hSw; go_simp; try with_reducible rfl
  try simp only [Act.put, List.setIfInBounds_toArray, List.set_cons_zero, List.set_cons_succ]
  refine' wpAnyH_take (i := 4) (oi := _) (v := _) ?hik7 (by kernel_rfl) ?hfk7 ?hrk7 ?hQk7 ?hyk7 (hSk1) ?restk7
  case hik7 => (simp only [List.getElem?_toArray, List.getElem?_cons_zero, List.getElem?_cons_succ]; rfl)
  case hfk7 => kernel_rfl
  case hrk7 => kernel_rfl
  case hQk7 => exact fun _ _ _ h => h
  case hyk7 => refine Or.inl ⟨by rfl, ?_⟩; intro W hSw; have hcc := HC0.out W hSw; go_simp; try with_reducible rfl
  try simp only [Act.put, List.setIfInBounds_toArray, List.set_cons_zero, List.set_cons_succ]
  refine' wpAnyH_take (i := 5) (oi := _) (v := _) ?hik8 (by kernel_rfl) ?hfk8 ?hrk8 ?hQk8 ?hyk8 (hSk1) ?restk8
  case hik8 => (simp only [List.getElem?_toArray, List.getElem?_cons_zero, List.getElem?_cons_succ]; rfl)
  case hfk8 => kernel_rfl
  case hrk8 => kernel_rfl
  case hQk8 => exact fun _ _ _ h => h
  case hyk8 => refine Or.inl ⟨by rfl, ?_⟩; intro W hSw; go_simp; try with_reducible rfl
  try simp only [Act.put, List.setIfInBounds_toArray, List.set_cons_zero, List.set_cons_succ]
  refine' wpAnyH_take (i := 6) (oi := _) (v := _) ?hik9 (by kernel_rfl) ?hfk9 ?hrk9 ?hQk9 ?hyk9 (hSk1) ?restk9
  case hik9 => (simp only [List.getElem?_toArray, List.getElem?_cons_zero, List.getElem?_cons_succ]; rfl)
  case hfk9 => kernel_rfl
  case hrk9 => kernel_rfl
  case hQk9 => exact fun _ _ _ h => h
  case hyk9 => refine Or.inl ⟨by rfl, ?_⟩; intro W hSw; go_simp; try with_reducible rfl
  try simp only [Act.put, List.setIfInBounds_toArray, List.set_cons_zero, List.set_cons_succ]
  refine' wpAnyH_take (i := 7) (oi := _) (v := _) ?hik10 (by kernel_rfl) ?hfk10 ?hrk10 ?hQk10 ?hyk10 (hSk1) ?restk10
  case hik10 => (simp only [List.getElem?_toArray, List.getElem?_cons_zero, List.getElem?_cons_succ]; rfl)
  case hfk10 => kernel_rfl
  case hrk10 => kernel_rfl
  case hQk10 => exact fun _ _ _ h => h
  case hyk10 => refine Or.inl ⟨by rfl, ?_⟩; intro W hSw; go_simp; try with_reducible rfl
  try simp only [Act.put, List.setIfInBounds_toArray, List.set_cons_zero, List.set_cons_succ]
  refine' wpAnyH_take (i := 8) (oi := _) (v := _) ?hik11 (by kernel_rfl) ?hfk11 ?hrk11 ?hQk11 ?hyk11 (hSk1) ?restk11
  case hik11 => (simp only [List.getElem?_toArray, List.getElem?_cons_zero, List.getElem?_cons_succ]; rfl)
  case hfk11 => kernel_rfl
  case hrk11 => kernel_rfl
  case hQk11 => exact fun _ _ _ h => h
  case hyk11 => refine Or.inl ⟨by rfl, ?_⟩; intro W hSw; go_simp; try with_reducible rfl
  try simp only [Act.put, List.setIfInBounds_toArray, List.set_cons_zero, List.set_cons_succ]
  refine' wpAnyH_take (i := 9) (oi := _) (v := _) ?hik12 (by kernel_rfl) ?hfk12 ?hrk12 ?hQk12 ?hyk12 (hSk1) ?restk12
  case hik12 => (simp only [List.getElem?_toArray, List.getElem?_cons_zero, List.getElem?_cons_succ]; rfl)
  case hfk12 => kernel_rfl
  case hrk12 => kernel_rfl
  case hQk12 => exact fun _ _ _ h => h
  case hyk12 => refine Or.inl ⟨by rfl, ?_⟩; intro W hSw; have hcc := HC0.out W hSw; go_simp; try with_reducible rfl
  try simp only [Act.put, List.setIfInBounds_toArray, List.set_cons_zero, List.set_cons_succ]
  refine' wpAnyH_take (i := 10) (oi := _) (v := _) ?hik13 (by kernel_rfl) ?hfk13 ?hrk13 ?hQk13 ?hyk13 (hSk1) ?restk13
  case hik13 => (simp only [List.getElem?_toArray, List.getElem?_cons_zero, List.getElem?_cons_succ]; rfl)
  case hfk13 => kernel_rfl
  case hrk13 => kernel_rfl
  case hQk13 => exact fun _ _ _ h => h
  case hyk13 => refine Or.inl ⟨by rfl, ?_⟩; intro W hSw; have hcc := HC1.out W hSw; go_simp; try with_reducible rfl
  try simp only [Act.put, List.setIfInBounds_toArray, List.set_cons_zero, List.set_cons_succ]
  refine' wpAnyH_take (i := 11) (oi := _) (v := _) ?hik14 (by kernel_rfl) ?hfk14 ?hrk14 ?hQk14 ?hyk14 (hSk1) ?restk14
  case hik14 => (simp only [List.getElem?_toArray, List.getElem?_cons_zero, List.getElem?_cons_succ]; rfl)
  case hfk14 => kernel_rfl
  case hrk14 => kernel_rfl
  case hQk14 => exact fun _ _ _ h => h
  case hyk14 => refine Or.inl ⟨by rfl, ?_⟩; intro W hSw; go_simp; try with_reducible rfl
  try simp only [Act.put, List.setIfInBounds_toArray, List.set_cons_zero, List.set_cons_succ]
  refine' wpAnyH_take (i := 12) (oi := _) (v := _) ?hik15 (by kernel_rfl) ?hfk15 ?hrk15 ?hQk15 ?hyk15 (hSk1) ?restk15
  case hik15 => (simp only [List.getElem?_toArray, List.getElem?_cons_zero, List.getElem?_cons_succ]; rfl)
  case hfk15 => kernel_rfl
  case hrk15 => kernel_rfl
  case hQk15 => exact fun _ _ _ h => h
  case hyk15 => refine Or.inl ⟨by rfl, ?_⟩; intro W hSw; have hcc := HCE.out W hSw; go_simp; try with_reducible rfl
  try simp only [Act.put, List.setIfInBounds_toArray, List.set_cons_zero, List.set_cons_succ]
  refine' wpAnyH_take (i := 13) (oi := _) (v := _) ?hik16 (by kernel_rfl) ?hfk16 ?hrk16 ?hQk16 ?hyk16 (hSk1) ?restk16
  case hik16 => (simp only [List.getElem?_toArray, List.getElem?_cons_zero, List.getElem?_cons_succ]; rfl)
  case hfk16 => kernel_rfl
  case hrk16 => kernel_rfl
  case hQk16 => exact fun _ _ _ h => h
  case hyk16 => refine Or.inl ⟨by rfl, ?_⟩; intro W hSw; have hcc := HC2.out W hSw; go_simp; try with_reducible rfl
  try simp only [Act.put, List.setIfInBounds_toArray, List.set_cons_zero, List.set_cons_succ]
  refine wpAnyH_ready (rs := [14]) (by kernel_rfl) (by simp) ?_
  refine' (AllReadyH.cons (o := _) ?hik17 (fun K hK => ?_) AllReadyH.nil)
  case hik17 => (simp only [List.getElem?_toArray, List.getElem?_cons_zero, List.getElem?_cons_succ]; rfl)
  go_simp
  go_at_call 24
  refine (CE.out Wk2 hSk1).mono ?_
  rintro e Wk20 ⟨rfl, hbk18⟩
  have hBk19 := below_on hSk1 (Nat.le_refl _) hbk18
  refine hK.out _ _ (hBk19) (fun _ => ?_)
  clear hK K
  try simp only [Act.put, List.setIfInBounds_toArray, List.set_cons_zero, List.set_cons_succ]
  refine' wpAnyH_take (i := 15) (oi := _) (v := _) ?hik21 (by kernel_rfl) ?hfk21 ?hrk21 ?hQk21 ?hyk21 (hBk19) ?restk21
  case hik21 => (simp only [List.getElem?_toArray, List.getElem?_cons_zero, List.getElem?_cons_succ]; rfl)
  case hfk21 => kernel_rfl
  case hrk21 => kernel_rfl
  case hQk21 => exact fun _ _ _ h => h
  case hyk21 => refine Or.inl ⟨by rfl, ?_⟩; intro W hSw; go_simp; try with_reducible rfl
  try simp only [Act.put, List.setIfInBounds_toArray, List.set_cons_zero, List.set_cons_succ]
  refine wpAnyH_done (by kernel_rfl) ?_ _
  go_upto_region 3 with fail
  have hk64 : IntKind.u64.wrap (k : Int) = (k : Int) := by rw [IntKind.wrap_u64]; omega
  have hn64 : IntKind.u64.wrap (n : Int) = (n : Int) := by rw [IntKind.wrap_u64]; omega
  have HS1 := Lib.hid hBk19
  have hSkk1 : Below Wk20.heap.size Wk20 Wk20.drew := (Below.refl _ _).drew
  refine wp_region_held_drew (S := fun W => Below Wk20.heap.size Wk20 W) (by kernel_rfl) (hSkk1) (fun _ => ?_)
  change wpAnyH _ _ _ _ _ _ _ _ Wk20.drew
  generalize Wk20.drew = Wkk2 at hSkk1 ⊢
  refine' wpAnyH_take (i := 0) (oi := _) (v := _) ?hikk3 (by kernel_rfl) ?hfkk3 ?hrkk3 ?hQkk3 ?hykk3 (hSkk1) ?restkk3
  case hikk3 => (simp only [List.getElem?_toArray, List.getElem?_cons_zero]; rfl)
  case hfkk3 => kernel_rfl
  case hrkk3 => kernel_rfl
  case hQkk3 => exact fun _ _ _ h => h
  case hykk3 => refine Or.inl ⟨by rfl, ?_⟩; intro W hSw; have hcc := HC2.out W (below_on HS1.out (Nat.le_refl _) hSw); go_simp; try with_reducible rfl
  try simp only [Act.put, List.setIfInBounds_toArray, List.set_cons_zero, List.set_cons_succ]
  refine' wpAnyH_take (i := 2) (oi := _) (v := _) ?hikk4 (by kernel_rfl) ?hfkk4 ?hrkk4 ?hQkk4 ?hykk4 (hSkk1) ?restkk4
  case hikk4 => (simp only [List.getElem?_toArray, List.getElem?_cons_zero, List.getElem?_cons_succ]; rfl)
  case hfkk4 => kernel_rfl
  case hrkk4 => kernel_rfl
  case hQkk4 => exact fun _ _ _ h => h
  case hykk4 => refine Or.inl ⟨by rfl, ?_⟩; intro W hSw; have hcc := HC1.out W (below_on HS1.out (Nat.le_refl _) hSw); go_simp; try with_reducible rfl
  try simp only [Act.put, List.setIfInBounds_toArray, List.set_cons_zero, List.set_cons_succ]
  refine' wpAnyH_take (i := 3) (oi := _) (v := .int .u64 (k : Int)) ?hikk5 (by kernel_rfl) ?hfkk5 ?hrkk5 ?hQkk5 ?hykk5 (hSkk1) ?restkk5
  case hikk5 => (simp only [List.getElem?_toArray, List.getElem?_cons_zero, List.getElem?_cons_succ]; rfl)
  case hfkk5 => kernel_rfl
  case hrkk5 => kernel_rfl
  case hQkk5 => exact fun _ _ _ h => h
  case hykk5 => refine Or.inl ⟨by rfl, ?_⟩; intro W hSw; go_simp; try rw [hk64]; try with_reducible rfl
  try simp only [Act.put, List.setIfInBounds_toArray, List.set_cons_zero, List.set_cons_succ]
  refine' wpAnyH_take (i := 4) (oi := _) (v := _) ?hikk6 (by kernel_rfl) ?hfkk6 ?hrkk6 ?hQkk6 ?hykk6 (hSkk1) ?restkk6
  case hikk6 => (simp only [List.getElem?_toArray, List.getElem?_cons_zero, List.getElem?_cons_succ]; rfl)
  case hfkk6 => kernel_rfl
  case hrkk6 => kernel_rfl
  case hQkk6 => exact fun _ _ _ h => h
  case hykk6 => refine Or.inl ⟨by rfl, ?_⟩; intro W hSw; have hcc := HC0.out W (below_on HS1.out (Nat.le_refl _) hSw); go_simp; try with_reducible rfl
  try simp only [Act.put, List.setIfInBounds_toArray, List.set_cons_zero, List.set_cons_succ]
  refine' wpAnyH_take (i := 5) (oi := _) (v := _) ?hikk7 (by kernel_rfl) ?hfkk7 ?hrkk7 ?hQkk7 ?hykk7 (hSkk1) ?restkk7
  case hikk7 => (simp only [List.getElem?_toArray, List.getElem?_cons_zero, List.getElem?_cons_succ]; rfl)
  case hfkk7 => kernel_rfl
  case hrkk7 => kernel_rfl
  case hQkk7 => exact fun _ _ _ h => h
  case hykk7 => refine Or.inl ⟨by rfl, ?_⟩; intro W hSw; go_simp; try with_reducible rfl
  try simp only [Act.put, List.setIfInBounds_toArray, List.set_cons_zero, List.set_cons_succ]
  refine' wpAnyH_take (i := 6) (oi := _) (v := .int .u64 (n : Int)) ?hikk8 (by kernel_rfl) ?hfkk8 ?hrkk8 ?hQkk8 ?hykk8 (hSkk1) ?restkk8
  case hikk8 => (simp only [List.getElem?_toArray, List.getElem?_cons_zero, List.getElem?_cons_succ]; rfl)
  case hfkk8 => kernel_rfl
  case hrkk8 => kernel_rfl
  case hQkk8 => exact fun _ _ _ h => h
  case hykk8 => refine Or.inl ⟨by rfl, ?_⟩; intro W hSw; go_simp; try rw [hn64]; try with_reducible rfl
  try simp only [Act.put, List.setIfInBounds_toArray, List.set_cons_zero, List.set_cons_succ]
  refine' wpAnyH_take (i := 7) (oi := _) (v := _) ?hikk9 (by kernel_rfl) ?hfkk9 ?hrkk9 ?hQkk9 ?hykk9 (hSkk1) ?restkk9
  case hikk9 => (simp only [List.getElem?_toArray, List.getElem?_cons_zero, List.getElem?_cons_succ]; rfl)
  case hfkk9 => kernel_rfl
  case hrkk9 => kernel_rfl
  case hQkk9 => exact fun _ _ _ h => h
  case hykk9 => refine Or.inl ⟨by rfl, ?_⟩; intro W hSw; have hcc := HC3.out W (below_on HS1.out (Nat.le_refl _) hSw); go_simp; try with_reducible rfl
  try simp only [Act.put, List.setIfInBounds_toArray, List.set_cons_zero, List.set_cons_succ]
  refine' wpAnyH_take (i := 8) (oi := _) (v := _) ?hikk10 (by kernel_rfl) ?hfkk10 ?hrkk10 ?hQkk10 ?hykk10 (hSkk1) ?restkk10
  case hikk10 => (simp only [List.getElem?_toArray, List.getElem?_cons_zero, List.getElem?_cons_succ]; rfl)
  case hfkk10 => kernel_rfl
  case hrkk10 => kernel_rfl
  case hQkk10 => exact fun _ _ _ h => h
  case hykk10 => refine Or.inl ⟨by rfl, ?_⟩; intro W hSw; have hcc := HC0.out W (below_on HS1.out (Nat.le_refl _) hSw); go_simp; try with_reducible rfl
  try simp only [Act.put, List.setIfInBounds_toArray, List.set_cons_zero, List.set_cons_succ]
  refine wpAnyH_ready (rs := [1]) (by kernel_rfl) (by simp) ?_
  refine' (AllReadyH.cons (o := _) ?hikk11 (fun K hK => ?_) AllReadyH.nil)
  case hikk11 => (simp only [List.getElem?_toArray, List.getElem?_cons_zero, List.getElem?_cons_succ]; rfl)
  go_simp
  go_at_call 19
  refine (CLF.out Wkk2 (below_on (below_on HB0.out (Nat.le_refl _) HS1.out) (Nat.le_refl _) hSkk1)).mono ?_
  rintro e Wkk14 ⟨rfl, hbkk12⟩
  have hBkk13 := below_on hSkk1 (Nat.le_refl _) hbkk12
  refine hK.out _ _ (hBkk13) (fun _ => ?_)
  clear hK K
  try simp only [Act.put, List.setIfInBounds_toArray, List.set_cons_zero, List.set_cons_succ]
  refine wpAnyH_ready (rs := [9]) (by kernel_rfl) (by simp) ?_
  refine' (AllReadyH.cons (o := _) ?hikk15 (fun K hK => ?_) AllReadyH.nil)
  case hikk15 => (simp only [List.getElem?_toArray, List.getElem?_cons_zero, List.getElem?_cons_succ]; rfl)
  go_simp
  go_at_call 30
  refine (CRT.out Wkk14 (below_on (below_on HB0.out (Nat.le_refl _) HS1.out) (Nat.le_refl _) hBkk13)).mono ?_
  rintro e Wkk18 ⟨rfl, hbkk16⟩
  have hBkk17 := below_on hBkk13 (Nat.le_refl _) hbkk16
  refine hK.out _ _ (hBkk17) (fun _ => ?_)
  clear hK K
  try simp only [Act.put, List.setIfInBounds_toArray, List.set_cons_zero, List.set_cons_succ]
  refine wpAnyH_ready (rs := [10]) (by kernel_rfl) (by simp) ?_
  refine' (AllReadyH.cons (o := _) ?hikk19 (fun K hK => ?_) AllReadyH.nil)
  case hikk19 => (simp only [List.getElem?_toArray, List.getElem?_cons_zero, List.getElem?_cons_succ]; rfl)
  go_simp
  go_at_call 18
  refine (CCK.out Wkk18 (below_on (below_on HB0.out (Nat.le_refl _) HS1.out) (Nat.le_refl _) hBkk17)).mono ?_
  rintro e Wkk22 ⟨rfl, hbkk20⟩
  have hBkk21 := below_on hBkk17 (Nat.le_refl _) hbkk20
  refine hK.out _ _ (hBkk21) (fun _ => ?_)
  clear hK K
  try simp only [Act.put, List.setIfInBounds_toArray, List.set_cons_zero, List.set_cons_succ]
  refine' wpAnyH_take (i := 11) (oi := _) (v := _) ?hikk23 (by kernel_rfl) ?hfkk23 ?hrkk23 ?hQkk23 ?hykk23 (hBkk21) ?restkk23
  case hikk23 => (simp only [List.getElem?_toArray, List.getElem?_cons_zero, List.getElem?_cons_succ]; rfl)
  case hfkk23 => kernel_rfl
  case hrkk23 => kernel_rfl
  case hQkk23 => exact fun _ _ _ h => h
  case hykk23 => refine Or.inl ⟨by rfl, ?_⟩; intro W hSw; go_simp; try with_reducible rfl
  try simp only [Act.put, List.setIfInBounds_toArray, List.set_cons_zero, List.set_cons_succ]
  refine wpAnyH_done (by kernel_rfl) ?_ _
  have hres := HZ.out.res.below (below_on HS1.out (Nat.le_refl _) hBkk21)
  have hz := below_setRow (below_on HZ.out.below (Nat.le_of_eq HG.out.symm) (below_on HS1.out (Nat.le_refl _) hBkk21)) (show g ≤ g + 4 by omega) #[.slice none 0 0, .slice none 0 0]
  go_wp2_with (with_reducible refine wpList_store_clash rfl (.tmp 8) (.tmp 39) rfl (g + 4) rfl hres none 0 0 none 0 0 rfl ?_)
  refine bodyPost_ret_by (results_cell_tmp (p := 8) (q := 9) (ty := 24) (by kernel_rfl) _ _ ⟨g + 4, 0, none⟩ (clv none 0 0 none 0 0) rfl (run_load_clash ((hres.setRow _).cell 0 rfl) ((hres.setRow _).cell 1 rfl))) rfl ?_
  exact ⟨⟨_, rfl, (fun e => by cases e), fun _ => rfl⟩, hz⟩

set_option maxRecDepth 100000 in
set_option maxHeartbeats 8000000 in
theorem path_yes (E1 : Ent w A n c R) (hk : k < n) (hn : n ≤ 60000) (hB : Came w B m d b) (hm : m ≤ 20000) (hI : InS w P q ys) (hy : ∀ x ∈ ys, x < 256) (hqr : q ≤ r) (hq : q ≤ 1000000) (hkn : Knows w) (hks : Starts w) (hne : ¬ R[k]? = some b) (hin : inTree ys (leafL b) (rtl R) q k n = true) :
    Calls Tryd.prog 17 #[.slice A n c, .int .i64 (k : Int), .slice B m d, .slice P q r] w fun e w' => Tells w.heap.size true e w' ∧ Below w.heap.size w w' := by
  obtain ⟨g, hg⟩ : ∃ g, w.heap.size = g := ⟨_, rfl⟩
  have hz0 := PathIn.mk_ w g (.slice A n c) (.int .i64 (k : Int)) (.slice B m d) (.slice P q r) hg
  obtain ⟨wz, hwz⟩ : ∃ x, x = (((((w.alloc (.cells #[.slice A n c] 31)).alloc (.cells #[.int .i64 (k : Int)] 3)).alloc (.cells #[.slice B m d] 22)).alloc (.cells #[.slice P q r] 33)).alloc (.cells #[.slice none 0 0, .slice none 0 0] 24)) := ⟨_, rfl⟩
  rw [← hwz] at hz0
  have HW := Lib.hid hwz
  have HG := Lib.hid hg
  have HZ := Lib.hid hz0
  have b0z : Below w.heap.size w wz := by rw [hg]; exact hz0.below
  have HC1 := Lib.hid (fun (W : World) (hW : Below wz.heap.size wz W) => show W.cell? ⟨g + 1, 0, none⟩ = some (.int .i64 (k : Int)) from (hz0.at_.below hW).cell)
  have HC2 := Lib.hid (fun (W : World) (hW : Below wz.heap.size wz W) => show W.cell? ⟨g + 2, 0, none⟩ = some (.slice B m d) from (hz0.b.below hW).cell)
  have HC3 := Lib.hid (fun (W : World) (hW : Below wz.heap.size wz W) => show W.cell? ⟨g + 3, 0, none⟩ = some (.slice P q r) from (hz0.path.below hW).cell)
  obtain ⟨ad, X, kx, qx, xs, rfl, hxs, hcx, hX, kxl⟩ := E1.at_ hk
  have hlt := World.block_lt_of_cell? w _ hcx
  have HCE := Lib.hid (fun (W : World) (hW : Below wz.heap.size wz W) => show W.cell? (ad.add k) = some (.slice X kx qx) from ((below_on b0z (Nat.le_refl _) hW).cell hlt).trans hcx)
  have CE := Lib.hid (fun (W : World) (hW : Below wz.heap.size wz W) => show Calls Tryd.prog 24 #[.slice X kx qx, .slice B m d] W fun e w' => e = .returned (.bool false) ∧ Below W.heap.size W w' from
    (equal_any (hX.below (below_on b0z (Nat.le_refl _) hW)) (hB.below (below_on b0z (Nat.le_refl _) hW))).mono fun e w' ⟨he, h⟩ => ⟨by rw [he, decide_eq_false (show ¬ xs = b from fun e => hne (by rw [hxs, e]))], by rw [h]; exact Below.refl _ _⟩)
  have HC0 := Lib.hid (fun (W : World) (hW : Below wz.heap.size wz W) => show W.cell? ⟨g, 0, none⟩ = some (.slice (some ad) n c) from (hz0.l.below hW).cell)
  obtain ⟨lb, hlb⟩ : ∃ x, leafL b = x := ⟨_, rfl⟩
  have lbl : lb.length = 32 := by rw [← hlb]; exact leafL_length _
  obtain ⟨rr, hrr⟩ : ∃ x, rtl R = x := ⟨_, rfl⟩
  have rrl : rr.length = 32 := by rw [← hrr]; exact rtl_length _
  have CLF := Lib.hid (fun (W : World) (hW : Below w.heap.size w W) => show Calls Tryd.prog 19 #[.slice B m d] W fun e w' => e = .returned (sv lb) ∧ Below W.heap.size W w' from by
    rw [← hlb]; exact leaf_any B m d b W (hB.below hW) (hkn.below hW) (hks.below hW) (by omega))
  have CRT := Lib.hid (fun (W : World) (hW : Below w.heap.size w W) => show Calls Tryd.prog 30 #[.slice (some ad) n c] W fun e w' => e = .returned (sv rr) ∧ Below W.heap.size W w' from by
    rw [← hrr]; exact croot_any (E1.below hW) hn (hkn.below hW) (hks.below hW))
  have CCK := Lib.hid (fun (W : World) (hW : Below w.heap.size w W) => show Calls Tryd.prog 18 #[sv lb, .int .u64 (k : Int), .int .u64 (n : Int), .slice P q r, sv rr] W fun e w' => e = .returned (.bool true) ∧ Below W.heap.size W w' from by
    rw [← hin, ← hlb, ← hrr]; exact check_any (at_ := k) (size := n) (hI.below hW) hy hqr (by omega) (leafL_length _) (leafL_lt _) (rtl_length _) (by omega) (hkn.below hW) (hks.below hW))
  have HKA := Lib.hid (And.intro E1 (And.intro hB (And.intro hI (And.intro hy (And.intro hkn (And.intro hks (And.intro hne hin)))))))
  have hzi : ¬ ((k : Int) < 0) := by omega
  have hzj : ¬ ((n : Int) ≤ (k : Int)) := by omega
  have hzk : (k : Int) < (n : Int) := by omega
  have HB0 := Lib.hid b0z
  clear hxs hcx hX hlt kxl E1 hB hI hy hkn hks hne hin hlb hrr
  rw [hg]
  clear hz0 hwz hg b0z
  go_enter Tryd.func17, Tryd.ntmps17
  go_upto_region 1 with fail
  rw [← HW.out]
  rw [HG.out]
  have hSs1 : Below wz.heap.size wz wz.drew := (Below.refl _ _).drew
  refine wp_region_held_drew (S := fun W => Below wz.heap.size wz W) (by kernel_rfl) (hSs1) (fun _ => ?_)
  change wpAnyH _ _ _ _ _ _ _ _ wz.drew
  generalize wz.drew = Ws2 at hSs1 ⊢
  refine' wpAnyH_take (i := 0) (oi := _) (v := _) ?his3 (by kernel_rfl) ?hfs3 ?hrs3 ?hQs3 ?hys3 (hSs1) ?rests3
  case his3 => (simp only [List.getElem?_toArray, List.getElem?_cons_zero]; rfl)
  case hfs3 => kernel_rfl
  case hrs3 => kernel_rfl
  case hQs3 => exact fun _ _ _ h => h
  case hys3 => refine Or.inl ⟨by rfl, ?_⟩; intro W hSw; have hcc := HC1.out W hSw; go_simp; try with_reducible rfl
  try simp only [Act.put, List.setIfInBounds_toArray, List.set_cons_zero, List.set_cons_succ]
  refine' wpAnyH_take (i := 1) (oi := _) (v := _) ?his4 (by kernel_rfl) ?hfs4 ?hrs4 ?hQs4 ?hys4 (hSs1) ?rests4
  case his4 => (simp only [List.getElem?_toArray, List.getElem?_cons_zero, List.getElem?_cons_succ]; rfl)
  case hfs4 => kernel_rfl
  case hrs4 => kernel_rfl
  case hQs4 => exact fun _ _ _ h => h
  case hys4 => refine Or.inl ⟨by rfl, ?_⟩; intro W hSw; go_simp; try with_reducible rfl
  try simp only [Act.put, List.setIfInBounds_toArray, List.set_cons_zero, List.set_cons_succ]
  refine' wpAnyH_take (i := 2) (oi := _) (v := _) ?his5 (by kernel_rfl) ?hfs5 ?hrs5 ?hQs5 ?hys5 (hSs1) ?rests5
  case his5 => (simp only [List.getElem?_toArray, List.getElem?_cons_zero, List.getElem?_cons_succ]; rfl)
  case hfs5 => kernel_rfl
  case hrs5 => kernel_rfl
  case hQs5 => exact fun _ _ _ h => h
  case hys5 => refine Or.inl ⟨by rfl, ?_⟩; intro W hSw; go_simp; try with_reducible rfl
  try simp only [Act.put, List.setIfInBounds_toArray, List.set_cons_zero, List.set_cons_succ]
  refine' wpAnyH_take (i := 3) (oi := _) (v := _) ?his6 (by kernel_rfl) ?hfs6 ?hrs6 ?hQs6 ?hys6 (hSs1) ?rests6
  case his6 => (simp only [List.getElem?_toArray, List.getElem?_cons_zero, List.getElem?_cons_succ]; rfl)
  case hfs6 => kernel_rfl
  case hrs6 => kernel_rfl
  case hQs6 => exact fun _ _ _ h => h
  case hys6 => refine Or.inl ⟨by rfl, ?_⟩; intro W hSw; have hcc := HC1.out W hSw; go_simp; try with_reducible rfl
  try simp only [Act.put, List.setIfInBounds_toArray, List.set_cons_zero, List.set_cons_succ]
  refine' wpAnyH_take (i := 4) (oi := _) (v := _) ?his7 (by kernel_rfl) ?hfs7 ?hrs7 ?hQs7 ?hys7 (hSs1) ?rests7
  case his7 => (simp only [List.getElem?_toArray, List.getElem?_cons_zero, List.getElem?_cons_succ]; rfl)
  case hfs7 => kernel_rfl
  case hrs7 => kernel_rfl
  case hQs7 => exact fun _ _ _ h => h
  case hys7 => refine Or.inl ⟨by rfl, ?_⟩; intro W hSw; have hcc := HC0.out W hSw; go_simp; try with_reducible rfl
  try simp only [Act.put, List.setIfInBounds_toArray, List.set_cons_zero, List.set_cons_succ]
  refine' wpAnyH_take (i := 5) (oi := _) (v := _) ?his8 (by kernel_rfl) ?hfs8 ?hrs8 ?hQs8 ?hys8 (hSs1) ?rests8
  case his8 => (simp only [List.getElem?_toArray, List.getElem?_cons_zero, List.getElem?_cons_succ]; rfl)
  case hfs8 => kernel_rfl
  case hrs8 => kernel_rfl
  case hQs8 => exact fun _ _ _ h => h
  case hys8 => refine Or.inl ⟨by rfl, ?_⟩; intro W hSw; go_simp; try with_reducible rfl
  try simp only [Act.put, List.setIfInBounds_toArray, List.set_cons_zero, List.set_cons_succ]
  refine' wpAnyH_take (i := 6) (oi := _) (v := _) ?his9 (by kernel_rfl) ?hfs9 ?hrs9 ?hQs9 ?hys9 (hSs1) ?rests9
  case his9 => (simp only [List.getElem?_toArray, List.getElem?_cons_zero, List.getElem?_cons_succ]; rfl)
  case hfs9 => kernel_rfl
  case hrs9 => kernel_rfl
  case hQs9 => exact fun _ _ _ h => h
  case hys9 => refine Or.inl ⟨by rfl, ?_⟩; intro W hSw; go_simp; try with_reducible rfl
  try simp only [Act.put, List.setIfInBounds_toArray, List.set_cons_zero, List.set_cons_succ]
  refine' wpAnyH_take (i := 7) (oi := _) (v := _) ?his10 (by kernel_rfl) ?hfs10 ?hrs10 ?hQs10 ?hys10 (hSs1) ?rests10
  case his10 => (simp only [List.getElem?_toArray, List.getElem?_cons_zero, List.getElem?_cons_succ]; rfl)
  case hfs10 => kernel_rfl
  case hrs10 => kernel_rfl
  case hQs10 => exact fun _ _ _ h => h
  case hys10 => refine Or.inl ⟨by rfl, ?_⟩; intro W hSw; go_simp; try with_reducible rfl
  try simp only [Act.put, List.setIfInBounds_toArray, List.set_cons_zero, List.set_cons_succ]
  refine' wpAnyH_take (i := 8) (oi := _) (v := _) ?his11 (by kernel_rfl) ?hfs11 ?hrs11 ?hQs11 ?hys11 (hSs1) ?rests11
  case his11 => (simp only [List.getElem?_toArray, List.getElem?_cons_zero, List.getElem?_cons_succ]; rfl)
  case hfs11 => kernel_rfl
  case hrs11 => kernel_rfl
  case hQs11 => exact fun _ _ _ h => h
  case hys11 => refine Or.inl ⟨by rfl, ?_⟩; intro W hSw; go_simp; try with_reducible rfl
  try simp only [Act.put, List.setIfInBounds_toArray, List.set_cons_zero, List.set_cons_succ]
  refine' wpAnyH_take (i := 9) (oi := _) (v := _) ?his12 (by kernel_rfl) ?hfs12 ?hrs12 ?hQs12 ?hys12 (hSs1) ?rests12
  case his12 => (simp only [List.getElem?_toArray, List.getElem?_cons_zero, List.getElem?_cons_succ]; rfl)
  case hfs12 => kernel_rfl
  case hrs12 => kernel_rfl
  case hQs12 => exact fun _ _ _ h => h
  case hys12 => refine Or.inl ⟨by rfl, ?_⟩; intro W hSw; have hcc := HC0.out W hSw; go_simp; try with_reducible rfl
  try simp only [Act.put, List.setIfInBounds_toArray, List.set_cons_zero, List.set_cons_succ]
  refine' wpAnyH_take (i := 10) (oi := _) (v := _) ?his13 (by kernel_rfl) ?hfs13 ?hrs13 ?hQs13 ?hys13 (hSs1) ?rests13
  case his13 => (simp only [List.getElem?_toArray, List.getElem?_cons_zero, List.getElem?_cons_succ]; rfl)
  case hfs13 => kernel_rfl
  case hrs13 => kernel_rfl
  case hQs13 => exact fun _ _ _ h => h
  case hys13 => refine Or.inl ⟨by rfl, ?_⟩; intro W hSw; have hcc := HC1.out W hSw; go_simp; try with_reducible rfl
  try simp only [Act.put, List.setIfInBounds_toArray, List.set_cons_zero, List.set_cons_succ]
  refine' wpAnyH_take (i := 11) (oi := _) (v := _) ?his14 (by kernel_rfl) ?hfs14 ?hrs14 ?hQs14 ?hys14 (hSs1) ?rests14
  case his14 => (simp only [List.getElem?_toArray, List.getElem?_cons_zero, List.getElem?_cons_succ]; rfl)
  case hfs14 => kernel_rfl
  case hrs14 => kernel_rfl
  case hQs14 => exact fun _ _ _ h => h
  case hys14 => refine Or.inl ⟨by rfl, ?_⟩; intro W hSw; go_simp; try with_reducible rfl
  try simp only [Act.put, List.setIfInBounds_toArray, List.set_cons_zero, List.set_cons_succ]
  refine' wpAnyH_take (i := 12) (oi := _) (v := _) ?his15 (by kernel_rfl) ?hfs15 ?hrs15 ?hQs15 ?hys15 (hSs1) ?rests15
  case his15 => (simp only [List.getElem?_toArray, List.getElem?_cons_zero, List.getElem?_cons_succ]; rfl)
  case hfs15 => kernel_rfl
  case hrs15 => kernel_rfl
  case hQs15 => exact fun _ _ _ h => h
  case hys15 => refine Or.inl ⟨by rfl, ?_⟩; intro W hSw; have hcc := HCE.out W hSw; go_simp; try with_reducible rfl
  try simp only [Act.put, List.setIfInBounds_toArray, List.set_cons_zero, List.set_cons_succ]
  refine' wpAnyH_take (i := 13) (oi := _) (v := _) ?his16 (by kernel_rfl) ?hfs16 ?hrs16 ?hQs16 ?hys16 (hSs1) ?rests16
  case his16 => (simp only [List.getElem?_toArray, List.getElem?_cons_zero, List.getElem?_cons_succ]; rfl)
  case hfs16 => kernel_rfl
  case hrs16 => kernel_rfl
  case hQs16 => exact fun _ _ _ h => h
  case hys16 => refine Or.inl ⟨by rfl, ?_⟩; intro W hSw; have hcc := HC2.out W hSw; go_simp; try with_reducible rfl
  try simp only [Act.put, List.setIfInBounds_toArray, List.set_cons_zero, List.set_cons_succ]
  refine wpAnyH_ready (rs := [14]) (by kernel_rfl) (by simp) ?_
  refine' (AllReadyH.cons (o := _) ?his17 (fun K hK => ?_) AllReadyH.nil)
  case his17 => (simp only [List.getElem?_toArray, List.getElem?_cons_zero, List.getElem?_cons_succ]; rfl)
  go_simp
  go_at_call 24
  refine (CE.out Ws2 hSs1).mono ?_
  rintro e Ws20 ⟨rfl, hbs18⟩
  have hBs19 := below_on hSs1 (Nat.le_refl _) hbs18
  refine hK.out _ _ (hBs19) (fun _ => ?_)
  clear hK K
  try simp only [Act.put, List.setIfInBounds_toArray, List.set_cons_zero, List.set_cons_succ]
  refine' wpAnyH_take (i := 15) (oi := _) (v := _) ?his21 (by kernel_rfl) ?hfs21 ?hrs21 ?hQs21 ?hys21 (hBs19) ?rests21
  case his21 => (simp only [List.getElem?_toArray, List.getElem?_cons_zero, List.getElem?_cons_succ]; rfl)
  case hfs21 => kernel_rfl
  case hrs21 => kernel_rfl
  case hQs21 => exact fun _ _ _ h => h
  case hys21 => refine Or.inl ⟨by rfl, ?_⟩; intro W hSw; go_simp; try with_reducible rfl
  try simp only [Act.put, List.setIfInBounds_toArray, List.set_cons_zero, List.set_cons_succ]
  refine wpAnyH_done (by kernel_rfl) ?_ _
  go_upto_region 3 with fail
  have hk64 : IntKind.u64.wrap (k : Int) = (k : Int) := by rw [IntKind.wrap_u64]; omega
  have hn64 : IntKind.u64.wrap (n : Int) = (n : Int) := by rw [IntKind.wrap_u64]; omega
  have HS1 := Lib.hid hBs19
  have hSsk1 : Below Ws20.heap.size Ws20 Ws20.drew := (Below.refl _ _).drew
  refine wp_region_held_drew (S := fun W => Below Ws20.heap.size Ws20 W) (by kernel_rfl) (hSsk1) (fun _ => ?_)
  change wpAnyH _ _ _ _ _ _ _ _ Ws20.drew
  generalize Ws20.drew = Wsk2 at hSsk1 ⊢
  refine' wpAnyH_take (i := 0) (oi := _) (v := _) ?hisk3 (by kernel_rfl) ?hfsk3 ?hrsk3 ?hQsk3 ?hysk3 (hSsk1) ?restsk3
  case hisk3 => (simp only [List.getElem?_toArray, List.getElem?_cons_zero]; rfl)
  case hfsk3 => kernel_rfl
  case hrsk3 => kernel_rfl
  case hQsk3 => exact fun _ _ _ h => h
  case hysk3 => refine Or.inl ⟨by rfl, ?_⟩; intro W hSw; have hcc := HC2.out W (below_on HS1.out (Nat.le_refl _) hSw); go_simp; try with_reducible rfl
  try simp only [Act.put, List.setIfInBounds_toArray, List.set_cons_zero, List.set_cons_succ]
  refine' wpAnyH_take (i := 2) (oi := _) (v := _) ?hisk4 (by kernel_rfl) ?hfsk4 ?hrsk4 ?hQsk4 ?hysk4 (hSsk1) ?restsk4
  case hisk4 => (simp only [List.getElem?_toArray, List.getElem?_cons_zero, List.getElem?_cons_succ]; rfl)
  case hfsk4 => kernel_rfl
  case hrsk4 => kernel_rfl
  case hQsk4 => exact fun _ _ _ h => h
  case hysk4 => refine Or.inl ⟨by rfl, ?_⟩; intro W hSw; have hcc := HC1.out W (below_on HS1.out (Nat.le_refl _) hSw); go_simp; try with_reducible rfl
  try simp only [Act.put, List.setIfInBounds_toArray, List.set_cons_zero, List.set_cons_succ]
  refine' wpAnyH_take (i := 3) (oi := _) (v := .int .u64 (k : Int)) ?hisk5 (by kernel_rfl) ?hfsk5 ?hrsk5 ?hQsk5 ?hysk5 (hSsk1) ?restsk5
  case hisk5 => (simp only [List.getElem?_toArray, List.getElem?_cons_zero, List.getElem?_cons_succ]; rfl)
  case hfsk5 => kernel_rfl
  case hrsk5 => kernel_rfl
  case hQsk5 => exact fun _ _ _ h => h
  case hysk5 => refine Or.inl ⟨by rfl, ?_⟩; intro W hSw; go_simp; try rw [hk64]; try with_reducible rfl
  try simp only [Act.put, List.setIfInBounds_toArray, List.set_cons_zero, List.set_cons_succ]
  refine' wpAnyH_take (i := 4) (oi := _) (v := _) ?hisk6 (by kernel_rfl) ?hfsk6 ?hrsk6 ?hQsk6 ?hysk6 (hSsk1) ?restsk6
  case hisk6 => (simp only [List.getElem?_toArray, List.getElem?_cons_zero, List.getElem?_cons_succ]; rfl)
  case hfsk6 => kernel_rfl
  case hrsk6 => kernel_rfl
  case hQsk6 => exact fun _ _ _ h => h
  case hysk6 => refine Or.inl ⟨by rfl, ?_⟩; intro W hSw; have hcc := HC0.out W (below_on HS1.out (Nat.le_refl _) hSw); go_simp; try with_reducible rfl
  try simp only [Act.put, List.setIfInBounds_toArray, List.set_cons_zero, List.set_cons_succ]
  refine' wpAnyH_take (i := 5) (oi := _) (v := _) ?hisk7 (by kernel_rfl) ?hfsk7 ?hrsk7 ?hQsk7 ?hysk7 (hSsk1) ?restsk7
  case hisk7 => (simp only [List.getElem?_toArray, List.getElem?_cons_zero, List.getElem?_cons_succ]; rfl)
  case hfsk7 => kernel_rfl
  case hrsk7 => kernel_rfl
  case hQsk7 => exact fun _ _ _ h => h
  case hysk7 => refine Or.inl ⟨by rfl, ?_⟩; intro W hSw; go_simp; try with_reducible rfl
  try simp only [Act.put, List.setIfInBounds_toArray, List.set_cons_zero, List.set_cons_succ]
  refine' wpAnyH_take (i := 6) (oi := _) (v := .int .u64 (n : Int)) ?hisk8 (by kernel_rfl) ?hfsk8 ?hrsk8 ?hQsk8 ?hysk8 (hSsk1) ?restsk8
  case hisk8 => (simp only [List.getElem?_toArray, List.getElem?_cons_zero, List.getElem?_cons_succ]; rfl)
  case hfsk8 => kernel_rfl
  case hrsk8 => kernel_rfl
  case hQsk8 => exact fun _ _ _ h => h
  case hysk8 => refine Or.inl ⟨by rfl, ?_⟩; intro W hSw; go_simp; try rw [hn64]; try with_reducible rfl
  try simp only [Act.put, List.setIfInBounds_toArray, List.set_cons_zero, List.set_cons_succ]
  refine' wpAnyH_take (i := 7) (oi := _) (v := _) ?hisk9 (by kernel_rfl) ?hfsk9 ?hrsk9 ?hQsk9 ?hysk9 (hSsk1) ?restsk9
  case hisk9 => (simp only [List.getElem?_toArray, List.getElem?_cons_zero, List.getElem?_cons_succ]; rfl)
  case hfsk9 => kernel_rfl
  case hrsk9 => kernel_rfl
  case hQsk9 => exact fun _ _ _ h => h
  case hysk9 => refine Or.inl ⟨by rfl, ?_⟩; intro W hSw; have hcc := HC3.out W (below_on HS1.out (Nat.le_refl _) hSw); go_simp; try with_reducible rfl
  try simp only [Act.put, List.setIfInBounds_toArray, List.set_cons_zero, List.set_cons_succ]
  refine' wpAnyH_take (i := 8) (oi := _) (v := _) ?hisk10 (by kernel_rfl) ?hfsk10 ?hrsk10 ?hQsk10 ?hysk10 (hSsk1) ?restsk10
  case hisk10 => (simp only [List.getElem?_toArray, List.getElem?_cons_zero, List.getElem?_cons_succ]; rfl)
  case hfsk10 => kernel_rfl
  case hrsk10 => kernel_rfl
  case hQsk10 => exact fun _ _ _ h => h
  case hysk10 => refine Or.inl ⟨by rfl, ?_⟩; intro W hSw; have hcc := HC0.out W (below_on HS1.out (Nat.le_refl _) hSw); go_simp; try with_reducible rfl
  try simp only [Act.put, List.setIfInBounds_toArray, List.set_cons_zero, List.set_cons_succ]
  refine wpAnyH_ready (rs := [1]) (by kernel_rfl) (by simp) ?_
  refine' (AllReadyH.cons (o := _) ?hisk11 (fun K hK => ?_) AllReadyH.nil)
  case hisk11 => (simp only [List.getElem?_toArray, List.getElem?_cons_zero, List.getElem?_cons_succ]; rfl)
  go_simp
  go_at_call 19
  refine (CLF.out Wsk2 (below_on (below_on HB0.out (Nat.le_refl _) HS1.out) (Nat.le_refl _) hSsk1)).mono ?_
  rintro e Wsk14 ⟨rfl, hbsk12⟩
  have hBsk13 := below_on hSsk1 (Nat.le_refl _) hbsk12
  refine hK.out _ _ (hBsk13) (fun _ => ?_)
  clear hK K
  try simp only [Act.put, List.setIfInBounds_toArray, List.set_cons_zero, List.set_cons_succ]
  refine wpAnyH_ready (rs := [9]) (by kernel_rfl) (by simp) ?_
  refine' (AllReadyH.cons (o := _) ?hisk15 (fun K hK => ?_) AllReadyH.nil)
  case hisk15 => (simp only [List.getElem?_toArray, List.getElem?_cons_zero, List.getElem?_cons_succ]; rfl)
  go_simp
  go_at_call 30
  refine (CRT.out Wsk14 (below_on (below_on HB0.out (Nat.le_refl _) HS1.out) (Nat.le_refl _) hBsk13)).mono ?_
  rintro e Wsk18 ⟨rfl, hbsk16⟩
  have hBsk17 := below_on hBsk13 (Nat.le_refl _) hbsk16
  refine hK.out _ _ (hBsk17) (fun _ => ?_)
  clear hK K
  try simp only [Act.put, List.setIfInBounds_toArray, List.set_cons_zero, List.set_cons_succ]
  refine wpAnyH_ready (rs := [10]) (by kernel_rfl) (by simp) ?_
  refine' (AllReadyH.cons (o := _) ?hisk19 (fun K hK => ?_) AllReadyH.nil)
  case hisk19 => (simp only [List.getElem?_toArray, List.getElem?_cons_zero, List.getElem?_cons_succ]; rfl)
  go_simp
  go_at_call 18
  refine (CCK.out Wsk18 (below_on (below_on HB0.out (Nat.le_refl _) HS1.out) (Nat.le_refl _) hBsk17)).mono ?_
  rintro e Wsk22 ⟨rfl, hbsk20⟩
  have hBsk21 := below_on hBsk17 (Nat.le_refl _) hbsk20
  refine hK.out _ _ (hBsk21) (fun _ => ?_)
  clear hK K
  try simp only [Act.put, List.setIfInBounds_toArray, List.set_cons_zero, List.set_cons_succ]
  refine' wpAnyH_take (i := 11) (oi := _) (v := _) ?hisk23 (by kernel_rfl) ?hfsk23 ?hrsk23 ?hQsk23 ?hysk23 (hBsk21) ?restsk23
  case hisk23 => (simp only [List.getElem?_toArray, List.getElem?_cons_zero, List.getElem?_cons_succ]; rfl)
  case hfsk23 => kernel_rfl
  case hrsk23 => kernel_rfl
  case hQsk23 => exact fun _ _ _ h => h
  case hysk23 => refine Or.inl ⟨by rfl, ?_⟩; intro W hSw; go_simp; try with_reducible rfl
  try simp only [Act.put, List.setIfInBounds_toArray, List.set_cons_zero, List.set_cons_succ]
  refine wpAnyH_done (by kernel_rfl) ?_ _
  have CF := Lib.hid (found_any (w := Wsk22) (fid := 38) (caps := #[.pointer (some ⟨g, 0, none⟩), .pointer (some ⟨g + 1, 0, none⟩), .pointer (some ⟨g + 2, 0, none⟩), .pointer (some ⟨g + 3, 0, none⟩)]) (fun _ => rfl) (fun W hW => by
    have hb3 := below_on (below_on HS1.out (Nat.le_refl _) hBsk21) (Nat.le_refl _) hW
    have hb0 := below_on HB0.out (Nat.le_refl _) hb3
    exact path1_any (HZ.out.l.below hb3) (HZ.out.at_.below hb3) (HZ.out.b.below hb3) (HZ.out.path.below hb3) (HKA.out.1.below hb0) hk (HKA.out.2.1.below hb0) hm (HKA.out.2.2.1.below hb0) HKA.out.2.2.2.1 hqr (HKA.out.2.2.2.2.1.below hb0) (HKA.out.2.2.2.2.2.1.below hb0) hn HKA.out.2.2.2.2.2.2.1 HKA.out.2.2.2.2.2.2.2))
  have hmf : ∀ (fn : Fn) (first cap : Array Value) (w : World), (Instr.makeFunc fn first cap).run Tryd.prog w = .ok (.func fn first cap) w := fun _ _ _ _ => rfl
  clear hk64 hn64 hzi hzj hzk
  go_wp2_with fail
  refine CF.out.mono ?_
  rintro e w5 ⟨u, rfl, hu, hb5⟩
  obtain ⟨A5, n5, c5, xs5, B5, m5, d5, ys5, rfl, hT, hC⟩ := hu
  have hres := (HZ.out.res.below (below_on HS1.out (Nat.le_refl _) hBsk21)).below hb5
  have hz := below_setRow (below_on (below_on HZ.out.below (Nat.le_of_eq HG.out.symm) (below_on HS1.out (Nat.le_refl _) hBsk21)) (Nat.le_of_eq HG.out.symm) hb5) (show g ≤ g + 4 by omega) #[.slice A5 n5 c5, .slice B5 m5 d5]
  have hT2 := (two_setRow hT (show g + 4 < Wsk22.heap.size by have := Below.size (below_on HS1.out (Nat.le_refl _) hBsk21); have := HZ.out.size; omega) #[.slice A5 n5 c5, .slice B5 m5 d5]).low (base' := g) (by have := Below.size (below_on HS1.out (Nat.le_refl _) hBsk21); have := HZ.out.size; omega)
  have HE := Lib.hid (And.intro hz (And.intro hT2 hC))
  clear hz hT2 hC hT hb5
  go_wp2_with (with_reducible refine wpList_store_clash rfl (.tmp 8) (.tmp 42) rfl (g + 4) rfl hres A5 n5 c5 B5 m5 d5 rfl ?_)
  refine bodyPost_ret_by (results_cell_tmp (p := 8) (q := 9) (ty := 24) (by kernel_rfl) _ _ ⟨g + 4, 0, none⟩ (clv A5 n5 c5 B5 m5 d5) rfl (run_load_clash ((hres.setRow _).cell 0 rfl) ((hres.setRow _).cell 1 rfl))) rfl ?_
  exact ⟨⟨_, rfl, (fun _ => ⟨_, _, _, _, _, _, _, _, rfl, HE.out.2.1, HE.out.2.2⟩), fun e => by cases e⟩, HE.out.1⟩

theorem cpath_any (E1 : Ent w A n c R) (hk : k < n) (hn : n ≤ 60000) (hB : Came w B m d b) (hm : m ≤ 20000) (hI : InS w P q ys) (hy : ∀ x ∈ ys, x < 256) (hqr : q ≤ r) (hq : q ≤ 1000000) (hkn : Knows w) (hks : Starts w) :
    Calls Tryd.prog 17 #[.slice A n c, .int .i64 (k : Int), .slice B m d, .slice P q r] w fun e w' => Tells w.heap.size (pathB R b ys q k) e w' ∧ Below w.heap.size w w' := by
  unfold pathB
  rw [E1.len]
  by_cases hb : R[k]? = some b
  · rw [decide_eq_true hb]
    exact path_same E1 hk hB hb
  · rw [decide_eq_false hb]
    cases hin : inTree ys (leafL b) (rtl R) q k n with
    | false => exact path_nocheck E1 hk hn hB hm hI hy hqr hq hkn hks hb hin
    | true => exact path_yes E1 hk hn hB hm hI hy hqr hq hkn hks hb hin
end

end Go.Proofs.YtcekfnngnjpeeaaDoor

/-
  An argument that is an array of bytes.
-/
namespace Go.Proofs.YtcekfnngnjpeeaaDoor
open Go.ChangeShapes Go.WideShapes Go.ChangeAt Go.RowKit

/-- A value as a byte. -/
def byteOf : Value → Nat
  | .int _ z => z.toNat
  | _ => 0

theorem came_arr {H : Type} {enc : TypeId × Value → H} {P : Program} {W : World} {base b0 n : Nat} {spare : Nat → Bool} {held : Bool} {r : Reach} {t e : TypeId} {v : Value} {d : DataW H} {ps : List MemPlace}
    (ht : P.underlying t = some (.array n e)) (he : P.underlying e = some (.int .u8)) (hc : P.cellsOf e = 1) (hct : P.cellsOf t = n)
    (hval : Value.okWide P W r b0 t v) (hd : DataW.Trod enc P W base spare held t v d ps) : ∃ xs : List Nat, v = .agg (bvs xs).toArray ∧ xs.length = n ∧ ∀ x ∈ xs, x < 256 := by
  simp only [Value.okWide, ht] at hval
  obtain ⟨cs, rfl, hsz, _⟩ := hval
  rw [hct] at hsz
  obtain ⟨fuel, hf⟩ := hd
  obtain ⟨xs, m, rfl, _, _, hlen, hp⟩ := DataW.trod_array ht hf
  have hx : ∀ i, i < n → ∃ z : Nat, z < 256 ∧ cs.toList[i]? = some (bv z) := fun i hi => by
    have h1 := hp i hi
    rw [List.getElem?_eq_getElem (by omega)] at h1
    obtain ⟨z, hz, _, hw⟩ := DataW.trod_int he h1
    rw [hc, Nat.mul_one] at hz
    have hb := bounds_u8 hw
    obtain ⟨z, rfl⟩ := Int.eq_ofNat_of_zero_le hb.1
    refine ⟨z, by omega, ?_⟩
    have : (List.take 1 (List.drop i cs.toList))[0]? = some (.int .u8 (z : Int)) := by simp only [Value.cells] at hz; rw [hz]; rfl
    rw [List.getElem?_take, if_pos (by omega), List.getElem?_drop, Nat.add_zero] at this
    exact this
  have hl : cs.toList.length = n := by simpa using hsz
  refine ⟨cs.toList.map byteOf, ?_, by rw [List.length_map, hl], fun x hxm => ?_⟩
  · congr 1
    apply Array.ext'
    rw [List.toList_toArray]
    apply List.ext_getElem?
    intro i
    rw [bvs_get, List.getElem?_map]
    by_cases hi : i < n
    · obtain ⟨z, _, hz⟩ := hx i hi
      rw [hz]; rfl
    · rw [List.getElem?_eq_none (by omega)]; rfl
  · obtain ⟨v, hv, rfl⟩ := List.mem_map.1 hxm
    obtain ⟨i, hi⟩ := List.mem_iff_getElem?.1 hv
    obtain ⟨z, hz, hz2⟩ := hx i (by rw [← hl]; exact (List.getElem?_eq_some_iff.1 hi).1)
    rw [hi] at hz2
    cases hz2
    exact hz

end Go.Proofs.YtcekfnngnjpeeaaDoor

/-
  The parts of a struct that came in: a sum, a number of 64 bits, a list of sums.
-/
namespace Go.Proofs.YtcekfnngnjpeeaaDoor
open Go.ChangeShapes Go.WideShapes Go.ChangeAt Go.RowKit Go.Deep

theorem list_sum {H : Type} {enc : TypeId × Value → H} {w : World} {base : Nat} {sp : Nat → Bool} {held : Bool} {fuel : Nat} {cs : List Value} {x : DataW H × List MemPlace}
    (h : DataW.trod enc Tryd.prog w base sp held fuel 29 cs = some x) : ∃ xs, cs = bvs xs ∧ xs.length = 32 ∧ ∀ x ∈ xs, x < 256 := by
  obtain ⟨hl, hx⟩ := cells_sum h
  refine ⟨cs.map byteOf, ?_, by rw [List.length_map, hl], fun x hxm => ?_⟩
  · apply List.ext_getElem?
    intro i
    rw [bvs_get, List.getElem?_map]
    by_cases hi : i < 32
    · obtain ⟨z, _, hz⟩ := hx i hi
      rw [hz]; rfl
    · rw [List.getElem?_eq_none (by omega)]; rfl
  · obtain ⟨v, hv, rfl⟩ := List.mem_map.1 hxm
    obtain ⟨i, hi⟩ := List.mem_iff_getElem?.1 hv
    obtain ⟨z, hz, hz2⟩ := hx i (by rw [← hl]; exact (List.getElem?_eq_some_iff.1 hi).1)
    rw [hi] at hz2
    cases hz2
    exact hz

theorem cellsS64 : Tryd.prog.cellsOf 43 = 1 := by kernel_rfl
theorem cellsSpath : Tryd.prog.cellsOf 33 = 1 := by kernel_rfl

theorem one_of (l : List Value) (h : l.length = 1) : ∃ a, l = [a] := by
  match l, h with
  | [a], _ => exact ⟨a, rfl⟩

theorem u64_one {H : Type} {enc : TypeId × Value → H} {W : World} {base fuel : Nat} {sp : Nat → Bool} {held : Bool} {l : List Value} {x : DataW H × List MemPlace} (h : DataW.trod enc Tryd.prog W base sp held fuel 43 l = some x) :
    ∃ q : Nat, l = [.int .u64 (q : Int)] ∧ q < 18446744073709551616 := by
  obtain ⟨z, ez, _, hw⟩ := DataW.trod_int Tryd.underlying43 h
  have hb := bounds_u64 hw
  obtain ⟨q, rfl⟩ := Int.eq_ofNat_of_zero_le hb.1
  exact ⟨q, ez, by omega⟩

end Go.Proofs.YtcekfnngnjpeeaaDoor

/-
  Arguments of type api.Clash.
-/
namespace Go.Proofs.YtcekfnngnjpeeaaDoor
open Go.ChangeShapes Go.WideShapes Go.ChangeAt Go.RowKit Go.Deep

/-- A slice of bytes that lies in a struct. -/
theorem bytes_one {H : Type} {enc : TypeId × Value → H} {w : World} {held : Bool} {fuel : Nat} {u : Value} {x : DataW H × List MemPlace} (h : DataW.trod enc Tryd.prog w 0 (fun _ => true) held fuel 22 [u] = some x)
    (hw : ∀ n ∈ x.1.weights Tryd.prog 22, n ≤ reachBytes) : ∃ A m c xs, u = .slice A m c ∧ Came w A m c xs ∧ m ≤ 140737488355328 := by
  rcases open_ints Tryd.underlying22 Tryd.underlying5 (by kernel_rfl) h with ⟨hcs, _⟩ | ⟨a, len, cap, zs, hcs, _, hl, hm, hz, hx, hcell, hwz⟩
  · simp at hcs
    subst hcs
    exact ⟨none, 0, 0, [], rfl, ⟨In.none_ _ _, (by intro x hx; cases hx), fun _ => rfl, Nat.le_refl _⟩, by omega⟩
  · simp at hcs
    subst hcs
    obtain ⟨xs, hxs⟩ := came_of (w := w) (a := some a) (len := len) (cap := cap) (zs := zs) (.inr ⟨_, rfl, hl, by simpa using hz, hcell, hwz⟩)
    have hz' : zs.length = cap := by simpa using hz
    have h1 := hw cap (by
      rw [hx, DataW.weights, Tryd.underlying22]
      refine List.mem_cons.2 (.inl ?_)
      rw [bytesByte, Nat.mul_one]
      simp [lits]
      omega)
    have := reachBytes_lt
    exact ⟨_, _, _, xs, rfl, hxs, by omega⟩

theorem cellsClash : Tryd.prog.cellsOf 24 = 2 := by kernel_rfl
theorem cellsBytes1 : Tryd.prog.cellsOf 22 = 1 := by kernel_rfl

set_option maxRecDepth 100000 in
theorem came_clash {H : Type} {enc : TypeId × Value → H} {W : World} {b0 : Nat} {held : Bool} {r : Reach} {v : Value} {d : DataW H} {ps : List MemPlace}
    (hval : Value.okWide Tryd.prog W r b0 24 v) (hd : DataW.Trod enc Tryd.prog W 0 (fun _ => true) held 24 v d ps) (hw : ∀ n ∈ d.weights Tryd.prog 24, n ≤ reachBytes) :
    ∃ A n c xs B m e ys, v = clv A n c B m e ∧ Came W A n c xs ∧ Came W B m e ys ∧ n ≤ 140737488355328 ∧ m ≤ 140737488355328 := by
  simp only [Value.okWide, Tryd.underlying24] at hval
  obtain ⟨cs, rfl, hsz, _⟩ := hval
  rw [cellsClash] at hsz
  obtain ⟨fuel, hf⟩ := hd
  obtain ⟨xs, n, _, hx0, hl, hlen, hx⟩ := DataW.trod_struct Tryd.underlying24 hf
  match xs, hlen with
  | [y0, y1], _ =>
    obtain ⟨l⟩ := cs
    have hln : l.length = 2 := by simpa using hsz
    match l, hln with
    | [u0, u1], _ =>
      have h0 := hx 0 _ rfl
      have h1 := hx 1 _ rfl
      have g0 : DataW.trod enc Tryd.prog W 0 (fun _ => true) held n 22 (([u0, u1].drop 0).take (Tryd.prog.cellsOf 22)) = some y0 := h0
      rw [cellsBytes1] at g0
      have g1 : DataW.trod enc Tryd.prog W 0 (fun _ => true) held n 22 (([u0, u1].drop 1).take (Tryd.prog.cellsOf 22)) = some y1 := h1
      rw [cellsBytes1] at g1
      have hd0 : d = .agg [y0.1, y1.1] := by
        have := congrArg Prod.fst hx0
        simpa using this
      subst hd0
      simp only [DataW.weights, Tryd.underlying24] at hw
      obtain ⟨A, m, c, xs, rfl, k0, l0⟩ := bytes_one g0 (fun n hn => hw n (DataW.weights_mem_each (ts := [22, 22]) (j := 0) rfl rfl n hn))
      obtain ⟨B, m', c', ys, rfl, k1, l1⟩ := bytes_one g1 (fun n hn => hw n (DataW.weights_mem_each (ts := [22, 22]) (j := 1) rfl rfl n hn))
      exact ⟨A, m, c, xs, B, m', c', ys, rfl, k0, k1, l0, l1⟩

end Go.Proofs.YtcekfnngnjpeeaaDoor

/-
  A slice of slices that came in: its length is not above its room.
-/
namespace Go.Proofs.YtcekfnngnjpeeaaDoor
open Go.ChangeShapes Go.WideShapes Go.ChangeAt Go.RowKit Go.Deep

theorem rows_cap {H : Type} {enc : TypeId × Value → H} {w : World} {base : Nat} {held : Bool} {fuel n c : Nat} {A : Option Addr} {x : DataW H × List MemPlace} (h : DataW.trod enc Tryd.prog w base (fun _ => true) held fuel 31 [.slice A n c] = some x) : n ≤ c := by
  rcases open_int_rows Tryd.underlying31 Tryd.underlying22 Tryd.underlying5 (by kernel_rfl) (by kernel_rfl) h with ⟨e, _⟩ | ⟨a, len, cap, B, L, C, Z, e, _, hl, _⟩
  · simp at e; omega
  · simp at e; omega

end Go.Proofs.YtcekfnngnjpeeaaDoor

/-
  Arguments of type Said of layer 13: two lists of entries, a place, an entry, and sums.
-/
namespace Go.Proofs.YtcekfnngnjpeeaaDoor
open Go.ChangeShapes Go.WideShapes Go.ChangeAt Go.RowKit Go.Deep

/-- One that came in. -/
def SaidC (W : World) (v : Value) : Prop := ∃ A n c R B m d S z X k q b P s r ys, v = .agg #[.slice A n c, .slice B m d, .int .i64 z, .slice X k q, .slice P s r] ∧
  (CameRows W A n R ∧ (A = none → c = 0) ∧ n ≤ c) ∧ (CameRows W B m S ∧ (B = none → d = 0) ∧ m ≤ d) ∧ (Came W X k q b ∧ k ≤ 140737488355328) ∧ CameS W P s r ys

theorem rows_form {H : Type} {enc : TypeId × Value → H} {w : World} {held : Bool} {fuel : Nat} {u : Value} {x : DataW H × List MemPlace} (h : DataW.trod enc Tryd.prog w 0 (fun _ => true) held fuel 31 [u] = some x)
    (hw : ∀ n ∈ x.1.weights Tryd.prog 31, n ≤ reachBytes) : ∃ A n c R, u = .slice A n c ∧ CameRows w A n R ∧ (A = none → c = 0) ∧ n ≤ c := by
  obtain ⟨Ao, no, co, rows, hcs, hr⟩ := came_rows h (List.all_eq_true.2 fun n hn => by simpa using hw n hn)
  simp at hcs
  subst hcs
  exact ⟨Ao, no, co, rows, rfl, hr, rows_nil h, rows_cap h⟩
theorem cellsInt1 : Tryd.prog.cellsOf 3 = 1 := by kernel_rfl
theorem cellsRows1 : Tryd.prog.cellsOf 31 = 1 := by kernel_rfl
theorem cellsSaidC : Tryd.prog.cellsOf 35 = 5 := by kernel_rfl

set_option maxRecDepth 100000 in
theorem came_saidC {H : Type} {enc : TypeId × Value → H} {W : World} {b0 : Nat} {held : Bool} {r : Reach} {v : Value} {d : DataW H} {ps : List MemPlace}
    (hval : Value.okWide Tryd.prog W r b0 35 v) (hd : DataW.Trod enc Tryd.prog W 0 (fun _ => true) held 35 v d ps) (hw : ∀ n ∈ d.weights Tryd.prog 35, n ≤ reachBytes) : SaidC W v := by
  simp only [Value.okWide, Tryd.underlying35] at hval
  obtain ⟨cs, rfl, hsz, _⟩ := hval
  rw [cellsSaidC] at hsz
  obtain ⟨fuel, hf⟩ := hd
  obtain ⟨xs, n, _, hx0, hl, hlen, hx⟩ := DataW.trod_struct Tryd.underlying35 hf
  match xs, hlen with
  | [y0, y1, y2, y3, y4], _ =>
    obtain ⟨l⟩ := cs
    have hln : l.length = 5 := by simpa using hsz
    match l, hln with
    | [u0, u1, u2, u3, u4], _ =>
      have g0 : DataW.trod enc Tryd.prog W 0 (fun _ => true) held n 31 (([u0, u1, u2, u3, u4].drop 0).take (Tryd.prog.cellsOf 31)) = some y0 := hx 0 _ rfl
      have g1 : DataW.trod enc Tryd.prog W 0 (fun _ => true) held n 31 (([u0, u1, u2, u3, u4].drop 1).take (Tryd.prog.cellsOf 31)) = some y1 := hx 1 _ rfl
      have g2 : DataW.trod enc Tryd.prog W 0 (fun _ => true) held n 3 (([u0, u1, u2, u3, u4].drop 2).take (Tryd.prog.cellsOf 3)) = some y2 := hx 2 _ rfl
      have g3 : DataW.trod enc Tryd.prog W 0 (fun _ => true) held n 22 (([u0, u1, u2, u3, u4].drop 3).take (Tryd.prog.cellsOf 22)) = some y3 := hx 3 _ rfl
      have g4 : DataW.trod enc Tryd.prog W 0 (fun _ => true) held n 33 (([u0, u1, u2, u3, u4].drop 4).take (Tryd.prog.cellsOf 33)) = some y4 := hx 4 _ rfl
      rw [cellsRows1] at g0 g1
      rw [cellsInt1] at g2
      rw [cellsBytes1] at g3
      rw [cellsSpath] at g4
      have hd0 : d = .agg [y0.1, y1.1, y2.1, y3.1, y4.1] := by
        have := congrArg Prod.fst hx0
        simpa using this
      subst hd0
      simp only [DataW.weights, Tryd.underlying35] at hw
      obtain ⟨A, m0, c0, R, rfl, k0⟩ := rows_form g0 (fun n hn => hw n (DataW.weights_mem_each (ts := [31, 31, 3, 22, 33]) (j := 0) rfl rfl n hn))
      obtain ⟨B, m1, c1, S, rfl, k1⟩ := rows_form g1 (fun n hn => hw n (DataW.weights_mem_each (ts := [31, 31, 3, 22, 33]) (j := 1) rfl rfl n hn))
      obtain ⟨z, ez, _, _⟩ := DataW.trod_int Tryd.underlying3 g2
      obtain ⟨X, m3, c3, b, rfl, k3, l3⟩ := bytes_one g3 (fun n hn => hw n (DataW.weights_mem_each (ts := [31, 31, 3, 22, 33]) (j := 3) rfl rfl n hn))
      obtain ⟨P, m4, c4, ys, rfl, k4⟩ : ∃ A m c ys, u4 = .slice A m c ∧ CameS W A m c ys := by
        have g4' : DataW.trod enc Tryd.prog W 0 (fun _ => true) held n 33 [u4] = some y4 := g4
        rcases Go.Deep.open_slice Tryd.underlying33 g4' with ⟨h0, _⟩ | ⟨ad, l, c, m, n, D, Pl, h0, _⟩
        · simp at h0
          subst h0
          exact ⟨none, 0, 0, [], rfl, InS.none_ _ _, (by intro x hx; cases hx), fun _ => rfl, Nat.le_refl _⟩
        · simp at h0
          subst h0
          obtain ⟨ys, hys⟩ := cameS_of g4'
          exact ⟨_, _, _, ys, rfl, hys⟩
      have e2 : u2 = .int .i64 z := by have : [u2] = [Value.int .i64 z] := ez; injection this
      subst e2
      exact ⟨A, m0, c0, R, B, m1, c1, S, z, X, m3, c3, b, P, m4, c4, ys, rfl, k0, k1, ⟨k3, l3⟩, k4⟩

end Go.Proofs.YtcekfnngnjpeeaaDoor

/-
  almonerlaw13.ClashesPath.
-/
namespace Go.Proofs.YtcekfnngnjpeeaaDoor
open Go.RowKit

theorem load_clash_op {o : Oper} {a : Act} {W : World} {g : Nat} {T : TypeId} {x y : Value} (p : Operand) (ho : o.op = .load 24 p) (hp : a.eval p = .pointer (some ⟨g, 0, none⟩)) (h : Cells W g T #[x, y]) : (execOp a.eval o).run Tryd.prog W = .ok (.value (.agg #[x, y])) W := by
  unfold execOp
  simp only [ho, hp, Instr.loadAt, Instr.sureAddr, Sem.run_bind, Sem.run_pure, Result.andThen_ok, run_load_clash (h.cell 0 (v := x) rfl) (h.cell 1 (v := y) rfl)]

set_option maxRecDepth 100000 in
set_option maxHeartbeats 8000000 in
theorem clashesPath_law (w : World) (hk : Knows w) (hks : Starts w) (E : Addr) (_ : Miss w E) {v : Value} (hv : SaidC w v) :
    Calls Tryd.prog 5 #[v] w fun e w' => e = .returned (.bool true) ∧ Below w.heap.size w w' := by
  obtain ⟨A, n, c, R, B, m, d, S, z, X, k, q, b, P, s, r, ys, rfl, ⟨crA, nilA, capA⟩, ⟨crB, nilB, capB⟩, ⟨hb, hkb⟩, hsu⟩ := hv
  obtain ⟨g, hg⟩ : ∃ g, w.heap.size = g := ⟨_, rfl⟩
  have c1 := Cells.new w 35 #[.slice A n c, .slice B m d, .int .i64 z, .slice X k q, .slice P s r]
  have b1 := below_alloc w (.cells #[.slice A n c, .slice B m d, .int .i64 z, .slice X k q, .slice P s r] 35)
  obtain ⟨w1, hw1⟩ : ∃ x, x = w.alloc (.cells #[.slice A n c, .slice B m d, .int .i64 z, .slice X k q, .slice P s r] 35) := ⟨_, rfl⟩
  rw [← hw1] at c1 b1
  rw [hg] at c1
  have CG := Lib.hid (cgreat_any (w := w1) (A := A) (B := B) (X := X) (P := P) (c := c) (d := d) (q := q) (s := s) (r := r) (z := z) (crA.below b1) (crB.below b1) hkb)
  have CA := Lib.hid (fun (W : World) (hW : Below w.heap.size w W) => calive_on hk hks hW)
  have HK := Lib.hid (And.intro hk (And.intro hks (And.intro crA (And.intro hb hsu))))
  have HW := Lib.hid hw1
  have HG := Lib.hid hg
  have HB1 := Lib.hid b1
  have HC1 := Lib.hid c1
  have x0 := c1.cell 0 (v := .slice A n c) rfl
  have x1 := c1.cell 1 (v := .slice B m d) rfl
  have x2 := c1.cell 2 (v := .int .i64 z) rfl
  have x3 := c1.cell 3 (v := .slice X k q) rfl
  have x4 := c1.cell 4 (v := .slice P s r) rfl
  clear hk hks crA crB hb hsu hw1 b1 c1 hg nilB capB
  go_enter Tryd.func5, Tryd.ntmps5
  go_upto_region 1 with fail
  rw [← HW.out]
  rw [HG.out]
  go_wp2_with fail
  refine CG.out.mono ?_
  rintro e w2 ⟨⟨bg, rfl, hbg⟩, hb2⟩
  have HB2 := Lib.hid (below_on HB1.out (Nat.le_refl _) hb2)
  have HC2 := Lib.hid (HC1.out.below hb2)
  clear CG hb2 x0 x1 x2 x3 x4
  cases bg with
  | true =>
    have C1 := Lib.hid (CA.out w2 HB2.out)
    go_wp2_with fail
    refine C1.out.mono ?_
    rintro e w3 ⟨rfl, hb3⟩
    have HB3 := Lib.hid (below_on HB2.out (Nat.le_refl _) hb3)
    clear hb3
    go_wp2_with fail
    go_ret
    exact ⟨rfl, HB3.out⟩
  | false =>
    have hgr := hbg rfl
    have HE := Lib.hid (ent_of HK.out.2.2.1 capA nilA (by omega))
    have hn40 : n ≤ 40 := hgr.1
    have hs100 : s ≤ 100 := hgr.2.2.1
    have hk2 : k ≤ 20000 := by omega
    clear hgr hbg
    have y0 := HC2.out.cell 0 (v := .slice A n c) rfl
    have y2 := HC2.out.cell 2 (v := .int .i64 z) rfl
    have y3 := HC2.out.cell 3 (v := .slice X k q) rfl
    have y4 := HC2.out.cell 4 (v := .slice P s r) rfl
    by_cases hz : z < 0
    · have CP := Lib.hid (path_neg (w := w2) (A := A) (B := X) (P := P) (n := n) (m := k) (q := s) (c := c) (d := q) (r := r) hz)
      go_wp2_with fail
      refine CP.out.mono ?_
      rintro e w3 ⟨⟨v, rfl, hv1, hv0⟩, hb3⟩
      have hzi : z < 0 := hz
      have hv' := hv0 rfl
      unfold clv at hv'
      subst hv'
      have b34 := below_alloc w3 (.cells #[.slice none 0 0, .slice none 0 0] 24)
      have HB4 := Lib.hid (below_on (below_on HB2.out (Nat.le_refl _) hb3) (Nat.le_refl _) b34)
      have HC4 := Lib.hid ((HC2.out.below hb3).below b34)
      clear hv1 hv0 hb3 CP b34 y0 y2 y3 y4
      go_upto_region 4 with fail
      obtain ⟨w4, hw4⟩ : ∃ x, x = w3.alloc (.cells #[.slice none 0 0, .slice none 0 0] 24) := ⟨_, rfl⟩
      rw [← hw4] at HB4 HC4 ⊢
      clear hw4
      have y0 := HC4.out.cell 0 (v := .slice A n c) rfl
      have y2 := HC4.out.cell 2 (v := .int .i64 z) rfl
      have C9 := Lib.hid (CA.out w4 HB4.out)
      go_wp2_with fail
      refine C9.out.mono ?_
      rintro e w9 ⟨rfl, hb9⟩
      have HB9 := Lib.hid (below_on HB4.out (Nat.le_refl _) hb9)
      clear hb9
      go_wp2_with fail
      go_ret
      exact ⟨rfl, HB9.out⟩
    obtain ⟨a, rfl⟩ := Int.eq_ofNat_of_zero_le (show 0 ≤ z by omega)
    have hzi : ¬ ((a : Int) < 0) := by omega
    clear hz
    by_cases han : n ≤ a
    · have hzj : (n : Int) ≤ (a : Int) := by omega
      have CP := Lib.hid (path_far (w := w2) (A := A) (B := X) (P := P) (n := n) (m := k) (q := s) (c := c) (d := q) (r := r) han)
      go_wp2_with fail
      refine CP.out.mono ?_
      rintro e w3 ⟨⟨v, rfl, hv1, hv0⟩, hb3⟩
      have hv' := hv0 rfl
      unfold clv at hv'
      subst hv'
      have b34 := below_alloc w3 (.cells #[.slice none 0 0, .slice none 0 0] 24)
      have HB4 := Lib.hid (below_on (below_on HB2.out (Nat.le_refl _) hb3) (Nat.le_refl _) b34)
      have HC4 := Lib.hid ((HC2.out.below hb3).below b34)
      clear hv1 hv0 hb3 CP b34 y0 y2 y3 y4
      go_upto_region 4 with fail
      obtain ⟨w4, hw4⟩ : ∃ x, x = w3.alloc (.cells #[.slice none 0 0, .slice none 0 0] 24) := ⟨_, rfl⟩
      rw [← hw4] at HB4 HC4 ⊢
      clear hw4
      have y0 := HC4.out.cell 0 (v := .slice A n c) rfl
      have y2 := HC4.out.cell 2 (v := .int .i64 (a : Int)) rfl
      have C9 := Lib.hid (CA.out w4 HB4.out)
      go_wp2_with fail
      refine C9.out.mono ?_
      rintro e w9 ⟨rfl, hb9⟩
      have HB9 := Lib.hid (below_on HB4.out (Nat.le_refl _) hb9)
      clear hb9
      go_wp2_with fail
      go_ret
      exact ⟨rfl, HB9.out⟩
    · have han2 : a < n := by omega
      have hzj : ¬ ((n : Int) ≤ (a : Int)) := by omega
      have hzk : (a : Int) < (n : Int) := by omega
      clear han
      have CP := Lib.hid (cpath_any (w := w2) (HE.out.below HB2.out) han2 (by omega) (HK.out.2.2.2.1.below HB2.out) hk2 (HK.out.2.2.2.2.in_.below HB2.out) HK.out.2.2.2.2.lt HK.out.2.2.2.2.cap (by omega) (HK.out.1.below HB2.out) (HK.out.2.1.below HB2.out))
      go_wp2_with fail
      refine CP.out.mono ?_
      rintro e w3 ⟨⟨v, rfl, hv1, hv0⟩, hb3⟩
      obtain ⟨b0, hb0⟩ : ∃ x, pathB R b ys s a = x := ⟨_, rfl⟩
      rw [hb0] at hv1 hv0 ⊢
      obtain ⟨A5, n5, c5, B5, m5, d5, rfl, hsh⟩ : ∃ A5 n5 c5 B5 m5 d5, v = clv A5 n5 c5 B5 m5 d5 ∧ (b0 = true → ∃ xs ys, Two w2.heap.size w3 A5 n5 c5 xs B5 m5 d5 ys ∧ Clashes xs ys) := by
        cases b0 with
        | true =>
          obtain ⟨A5, n5, c5, xs, B5, m5, d5, ys, e5, hT, hC⟩ := hv1 rfl
          exact ⟨A5, n5, c5, B5, m5, d5, e5, fun _ => ⟨xs, ys, hT, hC⟩⟩
        | false => exact ⟨none, 0, 0, none, 0, 0, hv0 rfl, fun e => by cases e⟩
      have c4 := Cells.new w3 24 #[.slice A5 n5 c5, .slice B5 m5 d5]
      have b34 := below_alloc w3 (.cells #[.slice A5 n5 c5, .slice B5 m5 d5] 24)
      have HB3 := Lib.hid (below_on HB2.out (Nat.le_refl _) hb3)
      have HC3 := Lib.hid (HC2.out.below hb3)
      have HSH := Lib.hid hsh
      have HB0 := Lib.hid hb0
      clear hv1 hv0 hsh hb0 hb3 CP y0 y2 y3 y4
      unfold clv
      go_upto_region 4 with fail
      obtain ⟨w4, hw4⟩ : ∃ x, x = w3.alloc (.cells #[.slice A5 n5 c5, .slice B5 m5 d5] 24) := ⟨_, rfl⟩
      rw [← hw4] at c4 b34 ⊢
      obtain ⟨gc, hgc⟩ : ∃ g, w3.heap.size = g := ⟨_, rfl⟩
      rw [hgc] at c4 ⊢
      have HB4 := Lib.hid (below_on HB3.out (Nat.le_refl _) b34)
      have HC4 := Lib.hid (HC3.out.below b34)
      have HCL := Lib.hid c4
      have HT4 := Lib.hid (fun e => by obtain ⟨xs, ys, hT, hC⟩ := HSH.out e; exact (⟨xs, ys, hT.below b34, hC⟩ : ∃ xs ys, Two w2.heap.size w4 A5 n5 c5 xs B5 m5 d5 ys ∧ Clashes xs ys))
      clear hw4 c4 b34 hgc HSH
      have y0 := HC4.out.cell 0 (v := .slice A n c) rfl
      have y2 := HC4.out.cell 2 (v := .int .i64 (a : Int)) rfl
      go_upto_region 6 with fail
      clear y0 y2
      have LC0 := Lib.hid (fun (W : World) (hW : Below w4.heap.size w4 W) => show W.cell? ⟨g, 0, none⟩ = some (.slice A n c) from (HC4.out.below hW).cell 0 rfl)
      have LC2 := Lib.hid (fun (W : World) (hW : Below w4.heap.size w4 W) => show W.cell? ⟨g, 2, none⟩ = some (.int .i64 (a : Int)) from (HC4.out.below hW).cell 2 rfl)
      have LC3 := Lib.hid (fun (W : World) (hW : Below w4.heap.size w4 W) => show W.cell? ⟨g, 3, none⟩ = some (.slice X k q) from (HC4.out.below hW).cell 3 rfl)
      have LC4 := Lib.hid (fun (W : World) (hW : Below w4.heap.size w4 W) => show W.cell? ⟨g, 4, none⟩ = some (.slice P s r) from (HC4.out.below hW).cell 4 rfl)
      have ON := Lib.hid (fun (W : World) (hW : Below w4.heap.size w4 W) => below_on HB4.out (Nat.le_refl _) hW)
      obtain ⟨lb, hlb⟩ : ∃ x, leafL b = x := ⟨_, rfl⟩
      obtain ⟨rr, hrr⟩ : ∃ x, rtl R = x := ⟨_, rfl⟩
      obtain ⟨let_, hlet⟩ : ∃ x, inTree ys (leafL b) (rtl R) s a n = x := ⟨_, rfl⟩
      have CLF := Lib.hid (fun (W : World) (hW : Below w4.heap.size w4 W) => show Calls Tryd.prog 19 #[.slice X k q] W fun e w' => e = .returned (sv lb) ∧ Below W.heap.size W w' from by
        rw [← hlb]; exact leaf_any X k q b W (HK.out.2.2.2.1.below (ON.out W hW)) (HK.out.1.below (ON.out W hW)) (HK.out.2.1.below (ON.out W hW)) (by omega))
      have CSM := Lib.hid (fun (W : World) (hW : Below w4.heap.size w4 W) => csums_any (HE.out.below (ON.out W hW)) (by omega) (HK.out.1.below (ON.out W hW)) (HK.out.2.1.below (ON.out W hW)))
      have CRT := Lib.hid (fun (W : World) (hW : Below w4.heap.size w4 W) (Y : Option Addr) (qy base : Nat) (ho : W.ownsRow base 29 32 (.slice Y n qy) n (bvs (leavesL R))) => show Calls Tryd.prog 14 #[.slice Y n qy] W fun e w' => e = .returned (sv rr) ∧ Below W.heap.size W w' from by
        have := root_any Y n qy (leavesL R) W (InS.of_own ho) (leavesL_lt _) (own_cap ho) (by omega) (HK.out.1.below (ON.out W hW)) (HK.out.2.1.below (ON.out W hW))
        have hl := HE.out.len
        have h2 := rtl_nth R
        rw [hl, hrr] at h2
        rw [h2] at this
        exact this)
      have CCK := Lib.hid (fun (W : World) (hW : Below w4.heap.size w4 W) => show Calls Tryd.prog 18 #[sv lb, .int .u64 (a : Int), .int .u64 (n : Int), .slice P s r, sv rr] W fun e w' => e = .returned (.bool let_) ∧ Below W.heap.size W w' from by
        rw [← hlet, ← hlb, ← hrr]; exact check_any (at_ := a) (size := n) (HK.out.2.2.2.2.in_.below (ON.out W hW)) HK.out.2.2.2.2.lt HK.out.2.2.2.2.cap (by omega) (leafL_length _) (leafL_lt _) (rtl_length _) (by omega) (HK.out.1.below (ON.out W hW)) (HK.out.2.1.below (ON.out W hW)))
      have ha64 := Lib.hid (show IntKind.u64.wrap (a : Int) = (a : Int) by rw [IntKind.wrap_u64]; omega)
      have hn64 := Lib.hid (show IntKind.u64.wrap (n : Int) = (n : Int) by rw [IntKind.wrap_u64]; omega)
      obtain ⟨ad, Xe, ke, qe, xs, eA, hxs, hcx, hXe, kxe⟩ := HE.out.at_ han2
      subst eA
      have hpB : b0 = (!decide (b = xs) && let_) := by
        rw [← HB0.out]; unfold pathB
        rw [nth_eqR hxs, HE.out.len, hlet, show decide (xs = b) = decide (b = xs) from decide_eq_decide.2 ⟨Eq.symm, Eq.symm⟩]
      have CSB := Lib.hid (fun (W : World) (hW : Below w4.heap.size w4 W) => show Calls Tryd.prog 10 #[.slice X k q, .slice Xe ke qe] W fun e w' => e = .returned (.bool (decide (b = xs))) ∧ Below W.heap.size W w' from
        (sameBytes_any X Xe k ke q qe b xs W ((HK.out.2.2.2.1.below (ON.out W hW)).in_) ((hXe.below (ON.out W hW)).in_) (by omega)).mono fun e w' ⟨he, q0, hq⟩ => ⟨he, by rw [hq]; exact drewN_on W q0⟩)
      have LCE := Lib.hid (fun (W : World) (hW : Below w4.heap.size w4 W) => show W.cell? (ad.add a) = some (.slice Xe ke qe) from ((ON.out W hW).cell (World.block_lt_of_cell? w _ hcx)).trans hcx)
      obtain ⟨same, hsm⟩ : ∃ x, decide (b = xs) = x := ⟨_, rfl⟩
      rw [hsm] at CSB hpB
      have HPB := Lib.hid hpB
      clear hlb hrr hlet hxs hcx hXe kxe hpB hsm
      have CAL := Lib.hid (fun (W : World) (hW : Below w4.heap.size w4 W) => CA.out W (ON.out W hW))
      have e1 := eql_bool
      go_cut [5] from 30 to 53 (fun s5 wx => s5 = .bool let_ ∧ Hid (Below w4.heap.size w4 wx))
      case first =>
        have hSk1 : Below w4.heap.size w4 w4.drew := (Below.refl _ _).drew
        refine wp_region_held_drew (S := fun W => Below w4.heap.size w4 W) (by kernel_rfl) (hSk1) (fun _ => ?_)
        change wpAnyH _ _ _ _ _ _ _ _ w4.drew
        generalize w4.drew = Wk2 at hSk1 ⊢
        refine' wpAnyH_take (i := 0) (oi := _) (v := _) ?hik3 (by kernel_rfl) ?hfk3 ?hrk3 ?hQk3 ?hyk3 (hSk1) ?restk3
        case hik3 => (simp only [List.getElem?_toArray, List.getElem?_cons_zero]; rfl)
        case hfk3 => kernel_rfl
        case hrk3 => kernel_rfl
        case hQk3 => exact fun _ _ _ h => h
        case hyk3 => refine Or.inl ⟨by rfl, ?_⟩; intro W hSw; go_simp; try with_reducible rfl
        try simp only [Act.put, List.setIfInBounds_toArray, List.set_cons_zero, List.set_cons_succ]
        refine' wpAnyH_take (i := 1) (oi := _) (v := _) ?hik4 (by kernel_rfl) ?hfk4 ?hrk4 ?hQk4 ?hyk4 (hSk1) ?restk4
        case hik4 => (simp only [List.getElem?_toArray, List.getElem?_cons_zero, List.getElem?_cons_succ]; rfl)
        case hfk4 => kernel_rfl
        case hrk4 => kernel_rfl
        case hQk4 => exact fun _ _ _ h => h
        case hyk4 => refine Or.inl ⟨by rfl, ?_⟩; intro W hSw; have hcc := LC3.out W hSw; go_simp; try with_reducible rfl
        try simp only [Act.put, List.setIfInBounds_toArray, List.set_cons_zero, List.set_cons_succ]
        refine' wpAnyH_take (i := 3) (oi := _) (v := _) ?hik5 (by kernel_rfl) ?hfk5 ?hrk5 ?hQk5 ?hyk5 (hSk1) ?restk5
        case hik5 => (simp only [List.getElem?_toArray, List.getElem?_cons_zero, List.getElem?_cons_succ]; rfl)
        case hfk5 => kernel_rfl
        case hrk5 => kernel_rfl
        case hQk5 => exact fun _ _ _ h => h
        case hyk5 => refine Or.inl ⟨by rfl, ?_⟩; intro W hSw; go_simp; try with_reducible rfl
        try simp only [Act.put, List.setIfInBounds_toArray, List.set_cons_zero, List.set_cons_succ]
        refine' wpAnyH_take (i := 4) (oi := _) (v := _) ?hik6 (by kernel_rfl) ?hfk6 ?hrk6 ?hQk6 ?hyk6 (hSk1) ?restk6
        case hik6 => (simp only [List.getElem?_toArray, List.getElem?_cons_zero, List.getElem?_cons_succ]; rfl)
        case hfk6 => kernel_rfl
        case hrk6 => kernel_rfl
        case hQk6 => exact fun _ _ _ h => h
        case hyk6 => refine Or.inl ⟨by rfl, ?_⟩; intro W hSw; have hcc := LC2.out W hSw; go_simp; try with_reducible rfl
        try simp only [Act.put, List.setIfInBounds_toArray, List.set_cons_zero, List.set_cons_succ]
        refine' wpAnyH_take (i := 5) (oi := _) (v := .int .u64 (a : Int)) ?hik7 (by kernel_rfl) ?hfk7 ?hrk7 ?hQk7 ?hyk7 (hSk1) ?restk7
        case hik7 => (simp only [List.getElem?_toArray, List.getElem?_cons_zero, List.getElem?_cons_succ]; rfl)
        case hfk7 => kernel_rfl
        case hrk7 => kernel_rfl
        case hQk7 => exact fun _ _ _ h => h
        case hyk7 => refine Or.inl ⟨by rfl, ?_⟩; intro W hSw; have h6 := ha64.out; go_simp; try rw [h6]; try with_reducible rfl
        try simp only [Act.put, List.setIfInBounds_toArray, List.set_cons_zero, List.set_cons_succ]
        refine' wpAnyH_take (i := 6) (oi := _) (v := _) ?hik8 (by kernel_rfl) ?hfk8 ?hrk8 ?hQk8 ?hyk8 (hSk1) ?restk8
        case hik8 => (simp only [List.getElem?_toArray, List.getElem?_cons_zero, List.getElem?_cons_succ]; rfl)
        case hfk8 => kernel_rfl
        case hrk8 => kernel_rfl
        case hQk8 => exact fun _ _ _ h => h
        case hyk8 => refine Or.inl ⟨by rfl, ?_⟩; intro W hSw; go_simp; try with_reducible rfl
        try simp only [Act.put, List.setIfInBounds_toArray, List.set_cons_zero, List.set_cons_succ]
        refine' wpAnyH_take (i := 7) (oi := _) (v := _) ?hik9 (by kernel_rfl) ?hfk9 ?hrk9 ?hQk9 ?hyk9 (hSk1) ?restk9
        case hik9 => (simp only [List.getElem?_toArray, List.getElem?_cons_zero, List.getElem?_cons_succ]; rfl)
        case hfk9 => kernel_rfl
        case hrk9 => kernel_rfl
        case hQk9 => exact fun _ _ _ h => h
        case hyk9 => refine Or.inl ⟨by rfl, ?_⟩; intro W hSw; have hcc := LC0.out W hSw; go_simp; try with_reducible rfl
        try simp only [Act.put, List.setIfInBounds_toArray, List.set_cons_zero, List.set_cons_succ]
        refine' wpAnyH_take (i := 8) (oi := _) (v := _) ?hik10 (by kernel_rfl) ?hfk10 ?hrk10 ?hQk10 ?hyk10 (hSk1) ?restk10
        case hik10 => (simp only [List.getElem?_toArray, List.getElem?_cons_zero, List.getElem?_cons_succ]; rfl)
        case hfk10 => kernel_rfl
        case hrk10 => kernel_rfl
        case hQk10 => exact fun _ _ _ h => h
        case hyk10 => refine Or.inl ⟨by rfl, ?_⟩; intro W hSw; go_simp; try with_reducible rfl
        try simp only [Act.put, List.setIfInBounds_toArray, List.set_cons_zero, List.set_cons_succ]
        refine' wpAnyH_take (i := 9) (oi := _) (v := .int .u64 (n : Int)) ?hik11 (by kernel_rfl) ?hfk11 ?hrk11 ?hQk11 ?hyk11 (hSk1) ?restk11
        case hik11 => (simp only [List.getElem?_toArray, List.getElem?_cons_zero, List.getElem?_cons_succ]; rfl)
        case hfk11 => kernel_rfl
        case hrk11 => kernel_rfl
        case hQk11 => exact fun _ _ _ h => h
        case hyk11 => refine Or.inl ⟨by rfl, ?_⟩; intro W hSw; have h6 := hn64.out; go_simp; try rw [h6]; try with_reducible rfl
        try simp only [Act.put, List.setIfInBounds_toArray, List.set_cons_zero, List.set_cons_succ]
        refine' wpAnyH_take (i := 10) (oi := _) (v := _) ?hik12 (by kernel_rfl) ?hfk12 ?hrk12 ?hQk12 ?hyk12 (hSk1) ?restk12
        case hik12 => (simp only [List.getElem?_toArray, List.getElem?_cons_zero, List.getElem?_cons_succ]; rfl)
        case hfk12 => kernel_rfl
        case hrk12 => kernel_rfl
        case hQk12 => exact fun _ _ _ h => h
        case hyk12 => refine Or.inl ⟨by rfl, ?_⟩; intro W hSw; go_simp; try with_reducible rfl
        try simp only [Act.put, List.setIfInBounds_toArray, List.set_cons_zero, List.set_cons_succ]
        refine' wpAnyH_take (i := 11) (oi := _) (v := _) ?hik13 (by kernel_rfl) ?hfk13 ?hrk13 ?hQk13 ?hyk13 (hSk1) ?restk13
        case hik13 => (simp only [List.getElem?_toArray, List.getElem?_cons_zero, List.getElem?_cons_succ]; rfl)
        case hfk13 => kernel_rfl
        case hrk13 => kernel_rfl
        case hQk13 => exact fun _ _ _ h => h
        case hyk13 => refine Or.inl ⟨by rfl, ?_⟩; intro W hSw; have hcc := LC4.out W hSw; go_simp; try with_reducible rfl
        try simp only [Act.put, List.setIfInBounds_toArray, List.set_cons_zero, List.set_cons_succ]
        refine' wpAnyH_take (i := 12) (oi := _) (v := _) ?hik14 (by kernel_rfl) ?hfk14 ?hrk14 ?hQk14 ?hyk14 (hSk1) ?restk14
        case hik14 => (simp only [List.getElem?_toArray, List.getElem?_cons_zero, List.getElem?_cons_succ]; rfl)
        case hfk14 => kernel_rfl
        case hrk14 => kernel_rfl
        case hQk14 => exact fun _ _ _ h => h
        case hyk14 => refine Or.inl ⟨by rfl, ?_⟩; intro W hSw; go_simp; try with_reducible rfl
        try simp only [Act.put, List.setIfInBounds_toArray, List.set_cons_zero, List.set_cons_succ]
        refine' wpAnyH_take (i := 13) (oi := _) (v := _) ?hik15 (by kernel_rfl) ?hfk15 ?hrk15 ?hQk15 ?hyk15 (hSk1) ?restk15
        case hik15 => (simp only [List.getElem?_toArray, List.getElem?_cons_zero, List.getElem?_cons_succ]; rfl)
        case hfk15 => kernel_rfl
        case hrk15 => kernel_rfl
        case hQk15 => exact fun _ _ _ h => h
        case hyk15 => refine Or.inl ⟨by rfl, ?_⟩; intro W hSw; have hcc := LC0.out W hSw; go_simp; try with_reducible rfl
        try simp only [Act.put, List.setIfInBounds_toArray, List.set_cons_zero, List.set_cons_succ]
        refine wpAnyH_ready (rs := [2]) (by kernel_rfl) (by simp) ?_
        refine' (AllReadyH.cons (o := _) ?hik16 (fun K hK => ?_) AllReadyH.nil)
        case hik16 => (simp only [List.getElem?_toArray, List.getElem?_cons_zero, List.getElem?_cons_succ]; rfl)
        go_simp
        go_at_call 19
        refine (CLF.out Wk2 hSk1).mono ?_
        rintro e Wk19 ⟨rfl, hbk17⟩
        have hBk18 := below_on hSk1 (Nat.le_refl _) hbk17
        refine hK.out _ _ (hBk18) (fun _ => ?_)
        clear hK K
        try simp only [Act.put, List.setIfInBounds_toArray, List.set_cons_zero, List.set_cons_succ]
        refine wpAnyH_ready (rs := [14]) (by kernel_rfl) (by simp) ?_
        refine' (AllReadyH.cons (o := _) ?hik20 (fun K hK => ?_) AllReadyH.nil)
        case hik20 => (simp only [List.getElem?_toArray, List.getElem?_cons_zero, List.getElem?_cons_succ]; rfl)
        go_simp
        go_at_call 15
        refine (CSM.out Wk19 hBk18).mono ?_
        rintro e Wk23 ⟨Yk24, qyk25, rfl, hok26, hbk21⟩
        have hBk22 := below_on hBk18 (Nat.le_refl _) hbk21
        refine hK.out _ _ (hBk22) (fun _ => ?_)
        clear hK K
        try simp only [Act.put, List.setIfInBounds_toArray, List.set_cons_zero, List.set_cons_succ]
        refine wpAnyH_ready (rs := [15]) (by kernel_rfl) (by simp) ?_
        refine' (AllReadyH.cons (o := _) ?hik27 (fun K hK => ?_) AllReadyH.nil)
        case hik27 => (simp only [List.getElem?_toArray, List.getElem?_cons_zero, List.getElem?_cons_succ]; rfl)
        go_simp
        go_at_call 14
        refine (CRT.out Wk23 hBk22 _ _ _ hok26).mono ?_
        rintro e Wk30 ⟨rfl, hbk28⟩
        have hBk29 := below_on hBk22 (Nat.le_refl _) hbk28
        refine hK.out _ _ (hBk29) (fun _ => ?_)
        clear hK K
        try simp only [Act.put, List.setIfInBounds_toArray, List.set_cons_zero, List.set_cons_succ]
        refine wpAnyH_ready (rs := [16]) (by kernel_rfl) (by simp) ?_
        refine' (AllReadyH.cons (o := _) ?hik31 (fun K hK => ?_) AllReadyH.nil)
        case hik31 => (simp only [List.getElem?_toArray, List.getElem?_cons_zero, List.getElem?_cons_succ]; rfl)
        go_simp
        go_at_call 18
        refine (CCK.out Wk30 hBk29).mono ?_
        rintro e Wk34 ⟨rfl, hbk32⟩
        have hBk33 := below_on hBk29 (Nat.le_refl _) hbk32
        refine hK.out _ _ (hBk33) (fun _ => ?_)
        clear hK K
        try simp only [Act.put, List.setIfInBounds_toArray, List.set_cons_zero, List.set_cons_succ]
        refine' wpAnyH_take (i := 17) (oi := _) (v := _) ?hik35 (by kernel_rfl) ?hfk35 ?hrk35 ?hQk35 ?hyk35 (hBk33) ?restk35
        case hik35 => (simp only [List.getElem?_toArray, List.getElem?_cons_zero, List.getElem?_cons_succ]; rfl)
        case hfk35 => kernel_rfl
        case hrk35 => kernel_rfl
        case hQk35 => exact fun _ _ _ h => h
        case hyk35 => refine Or.inl ⟨by rfl, ?_⟩; intro W hSw; go_simp; try with_reducible rfl
        try simp only [Act.put, List.setIfInBounds_toArray, List.set_cons_zero, List.set_cons_succ]
        refine wpAnyH_done (by kernel_rfl) ?_ _
        go_wp2_with fail
        go_meet
        case rel => exact ⟨rfl, Lib.hid hBk33⟩
      case rest =>
        obtain ⟨rfl, HR⟩ := hcut
        have HCW := Lib.hid (HCL.out.below HR.out)
        have HTW := Lib.hid (fun e => by obtain ⟨xs, ys, hT, hC⟩ := HT4.out e; exact (⟨xs, ys, hT.below HR.out, hC⟩ : ∃ xs ys, Two w2.heap.size wc A5 n5 c5 xs B5 m5 d5 ys ∧ Clashes xs ys))
        go_upto_region 7 with fail
        clear CLF CSM CRT CCK
        have K0 := Lib.hid (fun (W : World) (hW : Below wc.heap.size wc W) => LC0.out W (below_on HR.out (Nat.le_refl _) hW))
        have K2 := Lib.hid (fun (W : World) (hW : Below wc.heap.size wc W) => LC2.out W (below_on HR.out (Nat.le_refl _) hW))
        have K3 := Lib.hid (fun (W : World) (hW : Below wc.heap.size wc W) => LC3.out W (below_on HR.out (Nat.le_refl _) hW))
        have KE := Lib.hid (fun (W : World) (hW : Below wc.heap.size wc W) => LCE.out W (below_on HR.out (Nat.le_refl _) hW))
        have KS := Lib.hid (fun (W : World) (hW : Below wc.heap.size wc W) => CSB.out W (below_on HR.out (Nat.le_refl _) hW))
        have KA := Lib.hid (fun (W : World) (hW : Below wc.heap.size wc W) => CAL.out W (below_on HR.out (Nat.le_refl _) hW))
        cases let_ with
        | false =>
          have hbv : b0 = false := by rw [HPB.out]; simp
          subst hbv
          have hSl1 : Below wc.heap.size wc wc.drew := (Below.refl _ _).drew
          refine wp_region_held_drew (S := fun W => Below wc.heap.size wc W) (by kernel_rfl) (hSl1) (fun _ => ?_)
          change wpAnyH _ _ _ _ _ _ _ _ wc.drew
          generalize wc.drew = Wl2 at hSl1 ⊢
          refine wpAnyH_ready (rs := [0]) (by kernel_rfl) (by simp) ?_
          refine' (AllReadyH.cons (o := _) ?hil3 (fun K hK => ?_) AllReadyH.nil)
          case hil3 => (simp only [List.getElem?_toArray, List.getElem?_cons_zero]; rfl)
          go_simp
          go_at_call 8
          refine (KA.out Wl2 hSl1).mono ?_
          rintro e Wl6 ⟨rfl, hbl4⟩
          have hBl5 := below_on hSl1 (Nat.le_refl _) hbl4
          refine hK.out _ _ (hBl5) (fun _ => ?_)
          clear hK K
          try simp only [Act.put, List.setIfInBounds_toArray, List.set_cons_zero, List.set_cons_succ]
          refine' wpAnyH_take (i := 1) (oi := _) (v := _) ?hil7 (by kernel_rfl) ?hfl7 ?hrl7 ?hQl7 ?hyl7 (hBl5) ?restl7
          case hil7 => (simp only [List.getElem?_toArray, List.getElem?_cons_zero, List.getElem?_cons_succ]; rfl)
          case hfl7 => kernel_rfl
          case hrl7 => kernel_rfl
          case hQl7 => exact fun _ _ _ h => h
          case hyl7 => refine Or.inl ⟨by rfl, ?_⟩; intro W hSw; go_simp; try with_reducible rfl
          try simp only [Act.put, List.setIfInBounds_toArray, List.set_cons_zero, List.set_cons_succ]
          refine' wpAnyH_take (i := 2) (oi := _) (v := _) ?hil8 (by kernel_rfl) ?hfl8 ?hrl8 ?hQl8 ?hyl8 (hBl5) ?restl8
          case hil8 => (simp only [List.getElem?_toArray, List.getElem?_cons_zero, List.getElem?_cons_succ]; rfl)
          case hfl8 => kernel_rfl
          case hrl8 => kernel_rfl
          case hQl8 => exact fun _ _ _ h => h
          case hyl8 => refine Or.inl ⟨by rfl, ?_⟩; intro W hSw; go_simp; try with_reducible rfl
          try simp only [Act.put, List.setIfInBounds_toArray, List.set_cons_zero, List.set_cons_succ]
          refine' wpAnyH_take (i := 3) (oi := _) (v := _) ?hil9 (by kernel_rfl) ?hfl9 ?hrl9 ?hQl9 ?hyl9 (hBl5) ?restl9
          case hil9 => (simp only [List.getElem?_toArray, List.getElem?_cons_zero, List.getElem?_cons_succ]; rfl)
          case hfl9 => kernel_rfl
          case hrl9 => kernel_rfl
          case hQl9 => exact fun _ _ _ h => h
          case hyl9 => refine Or.inl ⟨by rfl, ?_⟩; intro W hSw; go_simp; try with_reducible rfl
          try simp only [Act.put, List.setIfInBounds_toArray, List.set_cons_zero, List.set_cons_succ]
          refine' wpAnyH_take (i := 4) (oi := _) (v := _) ?hil10 (by kernel_rfl) ?hfl10 ?hrl10 ?hQl10 ?hyl10 (hBl5) ?restl10
          case hil10 => (simp only [List.getElem?_toArray, List.getElem?_cons_zero, List.getElem?_cons_succ]; rfl)
          case hfl10 => kernel_rfl
          case hrl10 => kernel_rfl
          case hQl10 => exact fun _ _ _ h => h
          case hyl10 => refine Or.inl ⟨by rfl, ?_⟩; intro W hSw; go_simp; try with_reducible rfl
          try simp only [Act.put, List.setIfInBounds_toArray, List.set_cons_zero, List.set_cons_succ]
          refine' wpAnyH_take (i := 5) (oi := _) (v := undef) ?hil11 (by kernel_rfl) ?hfl11 ?hrl11 ?hQl11 ?hyl11 (hBl5) ?restl11
          case hil11 => (simp only [List.getElem?_toArray, List.getElem?_cons_zero, List.getElem?_cons_succ]; rfl)
          case hfl11 => kernel_rfl
          case hrl11 => kernel_rfl
          case hQl11 => exact fun _ _ _ h => h
          case hyl11 => exact Or.inr ⟨by rfl, rfl⟩
          try simp only [Act.put, List.setIfInBounds_toArray, List.set_cons_zero, List.set_cons_succ]
          refine' wpAnyH_take (i := 6) (oi := _) (v := undef) ?hil12 (by kernel_rfl) ?hfl12 ?hrl12 ?hQl12 ?hyl12 (hBl5) ?restl12
          case hil12 => (simp only [List.getElem?_toArray, List.getElem?_cons_zero, List.getElem?_cons_succ]; rfl)
          case hfl12 => kernel_rfl
          case hrl12 => kernel_rfl
          case hQl12 => exact fun _ _ _ h => h
          case hyl12 => exact Or.inr ⟨by rfl, rfl⟩
          try simp only [Act.put, List.setIfInBounds_toArray, List.set_cons_zero, List.set_cons_succ]
          refine' wpAnyH_take (i := 7) (oi := _) (v := undef) ?hil13 (by kernel_rfl) ?hfl13 ?hrl13 ?hQl13 ?hyl13 (hBl5) ?restl13
          case hil13 => (simp only [List.getElem?_toArray, List.getElem?_cons_zero, List.getElem?_cons_succ]; rfl)
          case hfl13 => kernel_rfl
          case hrl13 => kernel_rfl
          case hQl13 => exact fun _ _ _ h => h
          case hyl13 => exact Or.inr ⟨by rfl, rfl⟩
          try simp only [Act.put, List.setIfInBounds_toArray, List.set_cons_zero, List.set_cons_succ]
          refine' wpAnyH_take (i := 8) (oi := _) (v := undef) ?hil14 (by kernel_rfl) ?hfl14 ?hrl14 ?hQl14 ?hyl14 (hBl5) ?restl14
          case hil14 => (simp only [List.getElem?_toArray, List.getElem?_cons_zero, List.getElem?_cons_succ]; rfl)
          case hfl14 => kernel_rfl
          case hrl14 => kernel_rfl
          case hQl14 => exact fun _ _ _ h => h
          case hyl14 => exact Or.inr ⟨by rfl, rfl⟩
          try simp only [Act.put, List.setIfInBounds_toArray, List.set_cons_zero, List.set_cons_succ]
          refine' wpAnyH_take (i := 9) (oi := _) (v := undef) ?hil15 (by kernel_rfl) ?hfl15 ?hrl15 ?hQl15 ?hyl15 (hBl5) ?restl15
          case hil15 => (simp only [List.getElem?_toArray, List.getElem?_cons_zero, List.getElem?_cons_succ]; rfl)
          case hfl15 => kernel_rfl
          case hrl15 => kernel_rfl
          case hQl15 => exact fun _ _ _ h => h
          case hyl15 => exact Or.inr ⟨by rfl, rfl⟩
          try simp only [Act.put, List.setIfInBounds_toArray, List.set_cons_zero, List.set_cons_succ]
          refine' wpAnyH_take (i := 10) (oi := _) (v := undef) ?hil16 (by kernel_rfl) ?hfl16 ?hrl16 ?hQl16 ?hyl16 (hBl5) ?restl16
          case hil16 => (simp only [List.getElem?_toArray, List.getElem?_cons_zero, List.getElem?_cons_succ]; rfl)
          case hfl16 => kernel_rfl
          case hrl16 => kernel_rfl
          case hQl16 => exact fun _ _ _ h => h
          case hyl16 => exact Or.inr ⟨by rfl, rfl⟩
          try simp only [Act.put, List.setIfInBounds_toArray, List.set_cons_zero, List.set_cons_succ]
          refine' wpAnyH_take (i := 11) (oi := _) (v := undef) ?hil17 (by kernel_rfl) ?hfl17 ?hrl17 ?hQl17 ?hyl17 (hBl5) ?restl17
          case hil17 => (simp only [List.getElem?_toArray, List.getElem?_cons_zero, List.getElem?_cons_succ]; rfl)
          case hfl17 => kernel_rfl
          case hrl17 => kernel_rfl
          case hQl17 => exact fun _ _ _ h => h
          case hyl17 => exact Or.inr ⟨by rfl, rfl⟩
          try simp only [Act.put, List.setIfInBounds_toArray, List.set_cons_zero, List.set_cons_succ]
          refine' wpAnyH_take (i := 12) (oi := _) (v := undef) ?hil18 (by kernel_rfl) ?hfl18 ?hrl18 ?hQl18 ?hyl18 (hBl5) ?restl18
          case hil18 => (simp only [List.getElem?_toArray, List.getElem?_cons_zero, List.getElem?_cons_succ]; rfl)
          case hfl18 => kernel_rfl
          case hrl18 => kernel_rfl
          case hQl18 => exact fun _ _ _ h => h
          case hyl18 => exact Or.inr ⟨by rfl, rfl⟩
          try simp only [Act.put, List.setIfInBounds_toArray, List.set_cons_zero, List.set_cons_succ]
          refine' wpAnyH_take (i := 13) (oi := _) (v := undef) ?hil19 (by kernel_rfl) ?hfl19 ?hrl19 ?hQl19 ?hyl19 (hBl5) ?restl19
          case hil19 => (simp only [List.getElem?_toArray, List.getElem?_cons_zero, List.getElem?_cons_succ]; rfl)
          case hfl19 => kernel_rfl
          case hrl19 => kernel_rfl
          case hQl19 => exact fun _ _ _ h => h
          case hyl19 => exact Or.inr ⟨by rfl, rfl⟩
          try simp only [Act.put, List.setIfInBounds_toArray, List.set_cons_zero, List.set_cons_succ]
          refine' wpAnyH_take (i := 14) (oi := _) (v := undef) ?hil20 (by kernel_rfl) ?hfl20 ?hrl20 ?hQl20 ?hyl20 (hBl5) ?restl20
          case hil20 => (simp only [List.getElem?_toArray, List.getElem?_cons_zero, List.getElem?_cons_succ]; rfl)
          case hfl20 => kernel_rfl
          case hrl20 => kernel_rfl
          case hQl20 => exact fun _ _ _ h => h
          case hyl20 => exact Or.inr ⟨by rfl, rfl⟩
          try simp only [Act.put, List.setIfInBounds_toArray, List.set_cons_zero, List.set_cons_succ]
          refine' wpAnyH_take (i := 15) (oi := _) (v := _) ?hil21 (by kernel_rfl) ?hfl21 ?hrl21 ?hQl21 ?hyl21 (hBl5) ?restl21
          case hil21 => (simp only [List.getElem?_toArray, List.getElem?_cons_zero, List.getElem?_cons_succ]; rfl)
          case hfl21 => kernel_rfl
          case hrl21 => kernel_rfl
          case hQl21 => exact fun _ _ _ h => h
          case hyl21 => refine Or.inl ⟨by rfl, ?_⟩; intro W hSw; go_simp; try with_reducible rfl
          try simp only [Act.put, List.setIfInBounds_toArray, List.set_cons_zero, List.set_cons_succ]
          refine' wpAnyH_take (i := 16) (oi := _) (v := _) ?hil22 (by kernel_rfl) ?hfl22 ?hrl22 ?hQl22 ?hyl22 (hBl5) ?restl22
          case hil22 => (simp only [List.getElem?_toArray, List.getElem?_cons_zero, List.getElem?_cons_succ]; rfl)
          case hfl22 => kernel_rfl
          case hrl22 => kernel_rfl
          case hQl22 => exact fun _ _ _ h => h
          case hyl22 => refine Or.inl ⟨by rfl, ?_⟩; intro W hSw; go_simp; try with_reducible rfl
          try simp only [Act.put, List.setIfInBounds_toArray, List.set_cons_zero, List.set_cons_succ]
          refine' wpAnyH_take (i := 17) (oi := _) (v := _) ?hil23 (by kernel_rfl) ?hfl23 ?hrl23 ?hQl23 ?hyl23 (hBl5) ?restl23
          case hil23 => (simp only [List.getElem?_toArray, List.getElem?_cons_zero, List.getElem?_cons_succ]; rfl)
          case hfl23 => kernel_rfl
          case hrl23 => kernel_rfl
          case hQl23 => exact fun _ _ _ h => h
          case hyl23 => refine Or.inl ⟨by rfl, ?_⟩; intro W hSw; go_simp; try with_reducible rfl
          try simp only [Act.put, List.setIfInBounds_toArray, List.set_cons_zero, List.set_cons_succ]
          refine' wpAnyH_take (i := 18) (oi := _) (v := _) ?hil24 (by kernel_rfl) ?hfl24 ?hrl24 ?hQl24 ?hyl24 (hBl5) ?restl24
          case hil24 => (simp only [List.getElem?_toArray, List.getElem?_cons_zero, List.getElem?_cons_succ]; rfl)
          case hfl24 => kernel_rfl
          case hrl24 => kernel_rfl
          case hQl24 => exact fun _ _ _ h => h
          case hyl24 => refine Or.inl ⟨by rfl, ?_⟩; intro W hSw; go_simp; try with_reducible rfl
          try simp only [Act.put, List.setIfInBounds_toArray, List.set_cons_zero, List.set_cons_succ]
          refine' wpAnyH_take (i := 19) (oi := _) (v := _) ?hil25 (by kernel_rfl) ?hfl25 ?hrl25 ?hQl25 ?hyl25 (hBl5) ?restl25
          case hil25 => (simp only [List.getElem?_toArray, List.getElem?_cons_zero, List.getElem?_cons_succ]; rfl)
          case hfl25 => kernel_rfl
          case hrl25 => kernel_rfl
          case hQl25 => exact fun _ _ _ h => h
          case hyl25 => refine Or.inl ⟨by rfl, ?_⟩; intro W hSw; go_simp; try with_reducible rfl
          try simp only [Act.put, List.setIfInBounds_toArray, List.set_cons_zero, List.set_cons_succ]
          refine' wpAnyH_take (i := 20) (oi := _) (v := _) ?hil26 (by kernel_rfl) ?hfl26 ?hrl26 ?hQl26 ?hyl26 (hBl5) ?restl26
          case hil26 => (simp only [List.getElem?_toArray, List.getElem?_cons_zero, List.getElem?_cons_succ]; rfl)
          case hfl26 => kernel_rfl
          case hrl26 => kernel_rfl
          case hQl26 => exact fun _ _ _ h => h
          case hyl26 => refine Or.inl ⟨by rfl, ?_⟩; intro W hSw; go_simp; try with_reducible rfl
          try simp only [Act.put, List.setIfInBounds_toArray, List.set_cons_zero, List.set_cons_succ]
          refine' wpAnyH_take (i := 21) (oi := _) (v := _) ?hil27 (by kernel_rfl) ?hfl27 ?hrl27 ?hQl27 ?hyl27 (hBl5) ?restl27
          case hil27 => (simp only [List.getElem?_toArray, List.getElem?_cons_zero, List.getElem?_cons_succ]; rfl)
          case hfl27 => kernel_rfl
          case hrl27 => kernel_rfl
          case hQl27 => exact fun _ _ _ h => h
          case hyl27 => refine Or.inl ⟨by rfl, ?_⟩; intro W hSw; go_simp; try with_reducible rfl
          try simp only [Act.put, List.setIfInBounds_toArray, List.set_cons_zero, List.set_cons_succ]
          refine' wpAnyH_take (i := 22) (oi := _) (v := undef) ?hil28 (by kernel_rfl) ?hfl28 ?hrl28 ?hQl28 ?hyl28 (hBl5) ?restl28
          case hil28 => (simp only [List.getElem?_toArray, List.getElem?_cons_zero, List.getElem?_cons_succ]; rfl)
          case hfl28 => kernel_rfl
          case hrl28 => kernel_rfl
          case hQl28 => exact fun _ _ _ h => h
          case hyl28 => exact Or.inr ⟨by rfl, rfl⟩
          try simp only [Act.put, List.setIfInBounds_toArray, List.set_cons_zero, List.set_cons_succ]
          refine' wpAnyH_take (i := 23) (oi := _) (v := undef) ?hil29 (by kernel_rfl) ?hfl29 ?hrl29 ?hQl29 ?hyl29 (hBl5) ?restl29
          case hil29 => (simp only [List.getElem?_toArray, List.getElem?_cons_zero, List.getElem?_cons_succ]; rfl)
          case hfl29 => kernel_rfl
          case hrl29 => kernel_rfl
          case hQl29 => exact fun _ _ _ h => h
          case hyl29 => exact Or.inr ⟨by rfl, rfl⟩
          try simp only [Act.put, List.setIfInBounds_toArray, List.set_cons_zero, List.set_cons_succ]
          refine' wpAnyH_take (i := 24) (oi := _) (v := _) ?hil30 (by kernel_rfl) ?hfl30 ?hrl30 ?hQl30 ?hyl30 (hBl5) ?restl30
          case hil30 => (simp only [List.getElem?_toArray, List.getElem?_cons_zero, List.getElem?_cons_succ]; rfl)
          case hfl30 => kernel_rfl
          case hrl30 => kernel_rfl
          case hQl30 => exact fun _ _ _ h => h
          case hyl30 => refine Or.inl ⟨by rfl, ?_⟩; intro W hSw; go_simp; try with_reducible rfl
          try simp only [Act.put, List.setIfInBounds_toArray, List.set_cons_zero, List.set_cons_succ]
          refine' wpAnyH_take (i := 25) (oi := _) (v := _) ?hil31 (by kernel_rfl) ?hfl31 ?hrl31 ?hQl31 ?hyl31 (hBl5) ?restl31
          case hil31 => (simp only [List.getElem?_toArray, List.getElem?_cons_zero, List.getElem?_cons_succ]; rfl)
          case hfl31 => kernel_rfl
          case hrl31 => kernel_rfl
          case hQl31 => exact fun _ _ _ h => h
          case hyl31 => refine Or.inl ⟨by rfl, ?_⟩; intro W hSw; go_simp; try with_reducible rfl
          try simp only [Act.put, List.setIfInBounds_toArray, List.set_cons_zero, List.set_cons_succ]
          refine' wpAnyH_take (i := 26) (oi := _) (v := _) ?hil32 (by kernel_rfl) ?hfl32 ?hrl32 ?hQl32 ?hyl32 (hBl5) ?restl32
          case hil32 => (simp only [List.getElem?_toArray, List.getElem?_cons_zero, List.getElem?_cons_succ]; rfl)
          case hfl32 => kernel_rfl
          case hrl32 => kernel_rfl
          case hQl32 => exact fun _ _ _ h => h
          case hyl32 => refine Or.inl ⟨by rfl, ?_⟩; intro W hSw; go_simp; try with_reducible rfl
          try simp only [Act.put, List.setIfInBounds_toArray, List.set_cons_zero, List.set_cons_succ]
          refine wpAnyH_done (by kernel_rfl) ?_ _
          go_wp2_with fail
          go_ret
          exact ⟨rfl, below_on HB4.out (Nat.le_refl _) (below_on HR.out (Nat.le_refl _) hBl5)⟩
        | true =>
          cases same with
          | true =>
            have hbv : b0 = false := by rw [HPB.out]; rfl
            subst hbv
            have hSm1 : Below wc.heap.size wc wc.drew := (Below.refl _ _).drew
            refine wp_region_held_drew (S := fun W => Below wc.heap.size wc W) (by kernel_rfl) (hSm1) (fun _ => ?_)
            change wpAnyH _ _ _ _ _ _ _ _ wc.drew
            generalize wc.drew = Wm2 at hSm1 ⊢
            refine wpAnyH_ready (rs := [0]) (by kernel_rfl) (by simp) ?_
            refine' (AllReadyH.cons (o := _) ?him3 (fun K hK => ?_) AllReadyH.nil)
            case him3 => (simp only [List.getElem?_toArray, List.getElem?_cons_zero]; rfl)
            go_simp
            go_at_call 8
            refine (KA.out Wm2 hSm1).mono ?_
            rintro e Wm6 ⟨rfl, hbm4⟩
            have hBm5 := below_on hSm1 (Nat.le_refl _) hbm4
            refine hK.out _ _ (hBm5) (fun _ => ?_)
            clear hK K
            try simp only [Act.put, List.setIfInBounds_toArray, List.set_cons_zero, List.set_cons_succ]
            refine' wpAnyH_take (i := 1) (oi := _) (v := _) ?him7 (by kernel_rfl) ?hfm7 ?hrm7 ?hQm7 ?hym7 (hBm5) ?restm7
            case him7 => (simp only [List.getElem?_toArray, List.getElem?_cons_zero, List.getElem?_cons_succ]; rfl)
            case hfm7 => kernel_rfl
            case hrm7 => kernel_rfl
            case hQm7 => exact fun _ _ _ h => h
            case hym7 => refine Or.inl ⟨by rfl, ?_⟩; intro W hSw; go_simp; try with_reducible rfl
            try simp only [Act.put, List.setIfInBounds_toArray, List.set_cons_zero, List.set_cons_succ]
            refine' wpAnyH_take (i := 2) (oi := _) (v := _) ?him8 (by kernel_rfl) ?hfm8 ?hrm8 ?hQm8 ?hym8 (hBm5) ?restm8
            case him8 => (simp only [List.getElem?_toArray, List.getElem?_cons_zero, List.getElem?_cons_succ]; rfl)
            case hfm8 => kernel_rfl
            case hrm8 => kernel_rfl
            case hQm8 => exact fun _ _ _ h => h
            case hym8 => refine Or.inl ⟨by rfl, ?_⟩; intro W hSw; go_simp; try with_reducible rfl
            try simp only [Act.put, List.setIfInBounds_toArray, List.set_cons_zero, List.set_cons_succ]
            refine' wpAnyH_take (i := 3) (oi := _) (v := _) ?him9 (by kernel_rfl) ?hfm9 ?hrm9 ?hQm9 ?hym9 (hBm5) ?restm9
            case him9 => (simp only [List.getElem?_toArray, List.getElem?_cons_zero, List.getElem?_cons_succ]; rfl)
            case hfm9 => kernel_rfl
            case hrm9 => kernel_rfl
            case hQm9 => exact fun _ _ _ h => h
            case hym9 => refine Or.inl ⟨by rfl, ?_⟩; intro W hSw; go_simp; try with_reducible rfl
            try simp only [Act.put, List.setIfInBounds_toArray, List.set_cons_zero, List.set_cons_succ]
            refine' wpAnyH_take (i := 4) (oi := _) (v := _) ?him10 (by kernel_rfl) ?hfm10 ?hrm10 ?hQm10 ?hym10 (hBm5) ?restm10
            case him10 => (simp only [List.getElem?_toArray, List.getElem?_cons_zero, List.getElem?_cons_succ]; rfl)
            case hfm10 => kernel_rfl
            case hrm10 => kernel_rfl
            case hQm10 => exact fun _ _ _ h => h
            case hym10 => refine Or.inl ⟨by rfl, ?_⟩; intro W hSw; go_simp; try with_reducible rfl
            try simp only [Act.put, List.setIfInBounds_toArray, List.set_cons_zero, List.set_cons_succ]
            refine' wpAnyH_take (i := 5) (oi := _) (v := _) ?him11 (by kernel_rfl) ?hfm11 ?hrm11 ?hQm11 ?hym11 (hBm5) ?restm11
            case him11 => (simp only [List.getElem?_toArray, List.getElem?_cons_zero, List.getElem?_cons_succ]; rfl)
            case hfm11 => kernel_rfl
            case hrm11 => kernel_rfl
            case hQm11 => exact fun _ _ _ h => h
            case hym11 => refine Or.inl ⟨by rfl, ?_⟩; intro W hSw; go_simp; try with_reducible rfl
            try simp only [Act.put, List.setIfInBounds_toArray, List.set_cons_zero, List.set_cons_succ]
            refine' wpAnyH_take (i := 6) (oi := _) (v := _) ?him12 (by kernel_rfl) ?hfm12 ?hrm12 ?hQm12 ?hym12 (hBm5) ?restm12
            case him12 => (simp only [List.getElem?_toArray, List.getElem?_cons_zero, List.getElem?_cons_succ]; rfl)
            case hfm12 => kernel_rfl
            case hrm12 => kernel_rfl
            case hQm12 => exact fun _ _ _ h => h
            case hym12 => refine Or.inl ⟨by rfl, ?_⟩; intro W hSw; have hcc := K3.out W hSw; go_simp; try with_reducible rfl
            try simp only [Act.put, List.setIfInBounds_toArray, List.set_cons_zero, List.set_cons_succ]
            refine' wpAnyH_take (i := 7) (oi := _) (v := _) ?him13 (by kernel_rfl) ?hfm13 ?hrm13 ?hQm13 ?hym13 (hBm5) ?restm13
            case him13 => (simp only [List.getElem?_toArray, List.getElem?_cons_zero, List.getElem?_cons_succ]; rfl)
            case hfm13 => kernel_rfl
            case hrm13 => kernel_rfl
            case hQm13 => exact fun _ _ _ h => h
            case hym13 => refine Or.inl ⟨by rfl, ?_⟩; intro W hSw; go_simp; try with_reducible rfl
            try simp only [Act.put, List.setIfInBounds_toArray, List.set_cons_zero, List.set_cons_succ]
            refine' wpAnyH_take (i := 8) (oi := _) (v := _) ?him14 (by kernel_rfl) ?hfm14 ?hrm14 ?hQm14 ?hym14 (hBm5) ?restm14
            case him14 => (simp only [List.getElem?_toArray, List.getElem?_cons_zero, List.getElem?_cons_succ]; rfl)
            case hfm14 => kernel_rfl
            case hrm14 => kernel_rfl
            case hQm14 => exact fun _ _ _ h => h
            case hym14 => refine Or.inl ⟨by rfl, ?_⟩; intro W hSw; have hcc := K0.out W hSw; go_simp; try with_reducible rfl
            try simp only [Act.put, List.setIfInBounds_toArray, List.set_cons_zero, List.set_cons_succ]
            refine' wpAnyH_take (i := 9) (oi := _) (v := _) ?him15 (by kernel_rfl) ?hfm15 ?hrm15 ?hQm15 ?hym15 (hBm5) ?restm15
            case him15 => (simp only [List.getElem?_toArray, List.getElem?_cons_zero, List.getElem?_cons_succ]; rfl)
            case hfm15 => kernel_rfl
            case hrm15 => kernel_rfl
            case hQm15 => exact fun _ _ _ h => h
            case hym15 => refine Or.inl ⟨by rfl, ?_⟩; intro W hSw; go_simp; try with_reducible rfl
            try simp only [Act.put, List.setIfInBounds_toArray, List.set_cons_zero, List.set_cons_succ]
            refine' wpAnyH_take (i := 10) (oi := _) (v := _) ?him16 (by kernel_rfl) ?hfm16 ?hrm16 ?hQm16 ?hym16 (hBm5) ?restm16
            case him16 => (simp only [List.getElem?_toArray, List.getElem?_cons_zero, List.getElem?_cons_succ]; rfl)
            case hfm16 => kernel_rfl
            case hrm16 => kernel_rfl
            case hQm16 => exact fun _ _ _ h => h
            case hym16 => refine Or.inl ⟨by rfl, ?_⟩; intro W hSw; have hcc := K2.out W hSw; go_simp; try with_reducible rfl
            try simp only [Act.put, List.setIfInBounds_toArray, List.set_cons_zero, List.set_cons_succ]
            refine' wpAnyH_take (i := 11) (oi := _) (v := _) ?him17 (by kernel_rfl) ?hfm17 ?hrm17 ?hQm17 ?hym17 (hBm5) ?restm17
            case him17 => (simp only [List.getElem?_toArray, List.getElem?_cons_zero, List.getElem?_cons_succ]; rfl)
            case hfm17 => kernel_rfl
            case hrm17 => kernel_rfl
            case hQm17 => exact fun _ _ _ h => h
            case hym17 => refine Or.inl ⟨by rfl, ?_⟩; intro W hSw; go_simp; try with_reducible rfl
            try simp only [Act.put, List.setIfInBounds_toArray, List.set_cons_zero, List.set_cons_succ]
            refine' wpAnyH_take (i := 12) (oi := _) (v := _) ?him18 (by kernel_rfl) ?hfm18 ?hrm18 ?hQm18 ?hym18 (hBm5) ?restm18
            case him18 => (simp only [List.getElem?_toArray, List.getElem?_cons_zero, List.getElem?_cons_succ]; rfl)
            case hfm18 => kernel_rfl
            case hrm18 => kernel_rfl
            case hQm18 => exact fun _ _ _ h => h
            case hym18 => refine Or.inl ⟨by rfl, ?_⟩; intro W hSw; have hcc := KE.out W hSw; go_simp; try with_reducible rfl
            try simp only [Act.put, List.setIfInBounds_toArray, List.set_cons_zero, List.set_cons_succ]
            refine wpAnyH_ready (rs := [13]) (by kernel_rfl) (by simp) ?_
            refine' (AllReadyH.cons (o := _) ?him19 (fun K hK => ?_) AllReadyH.nil)
            case him19 => (simp only [List.getElem?_toArray, List.getElem?_cons_zero, List.getElem?_cons_succ]; rfl)
            go_simp
            go_at_call 10
            refine (KS.out Wm6 hBm5).mono ?_
            rintro e Wm22 ⟨rfl, hbm20⟩
            have hBm21 := below_on hBm5 (Nat.le_refl _) hbm20
            refine hK.out _ _ (hBm21) (fun _ => ?_)
            clear hK K
            try simp only [Act.put, List.setIfInBounds_toArray, List.set_cons_zero, List.set_cons_succ]
            refine' wpAnyH_take (i := 14) (oi := _) (v := _) ?him23 (by kernel_rfl) ?hfm23 ?hrm23 ?hQm23 ?hym23 (hBm21) ?restm23
            case him23 => (simp only [List.getElem?_toArray, List.getElem?_cons_zero, List.getElem?_cons_succ]; rfl)
            case hfm23 => kernel_rfl
            case hrm23 => kernel_rfl
            case hQm23 => exact fun _ _ _ h => h
            case hym23 => refine Or.inl ⟨by rfl, ?_⟩; intro W hSw; go_simp; try with_reducible rfl
            try simp only [Act.put, List.setIfInBounds_toArray, List.set_cons_zero, List.set_cons_succ]
            refine' wpAnyH_take (i := 15) (oi := _) (v := _) ?him24 (by kernel_rfl) ?hfm24 ?hrm24 ?hQm24 ?hym24 (hBm21) ?restm24
            case him24 => (simp only [List.getElem?_toArray, List.getElem?_cons_zero, List.getElem?_cons_succ]; rfl)
            case hfm24 => kernel_rfl
            case hrm24 => kernel_rfl
            case hQm24 => exact fun _ _ _ h => h
            case hym24 => refine Or.inl ⟨by rfl, ?_⟩; intro W hSw; go_simp; try with_reducible rfl
            try simp only [Act.put, List.setIfInBounds_toArray, List.set_cons_zero, List.set_cons_succ]
            refine' wpAnyH_take (i := 16) (oi := _) (v := _) ?him25 (by kernel_rfl) ?hfm25 ?hrm25 ?hQm25 ?hym25 (hBm21) ?restm25
            case him25 => (simp only [List.getElem?_toArray, List.getElem?_cons_zero, List.getElem?_cons_succ]; rfl)
            case hfm25 => kernel_rfl
            case hrm25 => kernel_rfl
            case hQm25 => exact fun _ _ _ h => h
            case hym25 => refine Or.inl ⟨by rfl, ?_⟩; intro W hSw; go_simp; try with_reducible rfl
            try simp only [Act.put, List.setIfInBounds_toArray, List.set_cons_zero, List.set_cons_succ]
            refine' wpAnyH_take (i := 17) (oi := _) (v := _) ?him26 (by kernel_rfl) ?hfm26 ?hrm26 ?hQm26 ?hym26 (hBm21) ?restm26
            case him26 => (simp only [List.getElem?_toArray, List.getElem?_cons_zero, List.getElem?_cons_succ]; rfl)
            case hfm26 => kernel_rfl
            case hrm26 => kernel_rfl
            case hQm26 => exact fun _ _ _ h => h
            case hym26 => refine Or.inl ⟨by rfl, ?_⟩; intro W hSw; go_simp; try with_reducible rfl
            try simp only [Act.put, List.setIfInBounds_toArray, List.set_cons_zero, List.set_cons_succ]
            refine' wpAnyH_take (i := 18) (oi := _) (v := _) ?him27 (by kernel_rfl) ?hfm27 ?hrm27 ?hQm27 ?hym27 (hBm21) ?restm27
            case him27 => (simp only [List.getElem?_toArray, List.getElem?_cons_zero, List.getElem?_cons_succ]; rfl)
            case hfm27 => kernel_rfl
            case hrm27 => kernel_rfl
            case hQm27 => exact fun _ _ _ h => h
            case hym27 => refine Or.inl ⟨by rfl, ?_⟩; intro W hSw; go_simp; try with_reducible rfl
            try simp only [Act.put, List.setIfInBounds_toArray, List.set_cons_zero, List.set_cons_succ]
            refine' wpAnyH_take (i := 19) (oi := _) (v := _) ?him28 (by kernel_rfl) ?hfm28 ?hrm28 ?hQm28 ?hym28 (hBm21) ?restm28
            case him28 => (simp only [List.getElem?_toArray, List.getElem?_cons_zero, List.getElem?_cons_succ]; rfl)
            case hfm28 => kernel_rfl
            case hrm28 => kernel_rfl
            case hQm28 => exact fun _ _ _ h => h
            case hym28 => refine Or.inl ⟨by rfl, ?_⟩; intro W hSw; go_simp; try with_reducible rfl
            try simp only [Act.put, List.setIfInBounds_toArray, List.set_cons_zero, List.set_cons_succ]
            refine' wpAnyH_take (i := 20) (oi := _) (v := _) ?him29 (by kernel_rfl) ?hfm29 ?hrm29 ?hQm29 ?hym29 (hBm21) ?restm29
            case him29 => (simp only [List.getElem?_toArray, List.getElem?_cons_zero, List.getElem?_cons_succ]; rfl)
            case hfm29 => kernel_rfl
            case hrm29 => kernel_rfl
            case hQm29 => exact fun _ _ _ h => h
            case hym29 => refine Or.inl ⟨by rfl, ?_⟩; intro W hSw; go_simp; try with_reducible rfl
            try simp only [Act.put, List.setIfInBounds_toArray, List.set_cons_zero, List.set_cons_succ]
            refine' wpAnyH_take (i := 21) (oi := _) (v := _) ?him30 (by kernel_rfl) ?hfm30 ?hrm30 ?hQm30 ?hym30 (hBm21) ?restm30
            case him30 => (simp only [List.getElem?_toArray, List.getElem?_cons_zero, List.getElem?_cons_succ]; rfl)
            case hfm30 => kernel_rfl
            case hrm30 => kernel_rfl
            case hQm30 => exact fun _ _ _ h => h
            case hym30 => refine Or.inl ⟨by rfl, ?_⟩; intro W hSw; go_simp; try with_reducible rfl
            try simp only [Act.put, List.setIfInBounds_toArray, List.set_cons_zero, List.set_cons_succ]
            refine' wpAnyH_take (i := 22) (oi := _) (v := undef) ?him31 (by kernel_rfl) ?hfm31 ?hrm31 ?hQm31 ?hym31 (hBm21) ?restm31
            case him31 => (simp only [List.getElem?_toArray, List.getElem?_cons_zero, List.getElem?_cons_succ]; rfl)
            case hfm31 => kernel_rfl
            case hrm31 => kernel_rfl
            case hQm31 => exact fun _ _ _ h => h
            case hym31 => exact Or.inr ⟨by rfl, rfl⟩
            try simp only [Act.put, List.setIfInBounds_toArray, List.set_cons_zero, List.set_cons_succ]
            refine' wpAnyH_take (i := 23) (oi := _) (v := undef) ?him32 (by kernel_rfl) ?hfm32 ?hrm32 ?hQm32 ?hym32 (hBm21) ?restm32
            case him32 => (simp only [List.getElem?_toArray, List.getElem?_cons_zero, List.getElem?_cons_succ]; rfl)
            case hfm32 => kernel_rfl
            case hrm32 => kernel_rfl
            case hQm32 => exact fun _ _ _ h => h
            case hym32 => exact Or.inr ⟨by rfl, rfl⟩
            try simp only [Act.put, List.setIfInBounds_toArray, List.set_cons_zero, List.set_cons_succ]
            refine' wpAnyH_take (i := 24) (oi := _) (v := _) ?him33 (by kernel_rfl) ?hfm33 ?hrm33 ?hQm33 ?hym33 (hBm21) ?restm33
            case him33 => (simp only [List.getElem?_toArray, List.getElem?_cons_zero, List.getElem?_cons_succ]; rfl)
            case hfm33 => kernel_rfl
            case hrm33 => kernel_rfl
            case hQm33 => exact fun _ _ _ h => h
            case hym33 => refine Or.inl ⟨by rfl, ?_⟩; intro W hSw; go_simp; try with_reducible rfl
            try simp only [Act.put, List.setIfInBounds_toArray, List.set_cons_zero, List.set_cons_succ]
            refine' wpAnyH_take (i := 25) (oi := _) (v := _) ?him34 (by kernel_rfl) ?hfm34 ?hrm34 ?hQm34 ?hym34 (hBm21) ?restm34
            case him34 => (simp only [List.getElem?_toArray, List.getElem?_cons_zero, List.getElem?_cons_succ]; rfl)
            case hfm34 => kernel_rfl
            case hrm34 => kernel_rfl
            case hQm34 => exact fun _ _ _ h => h
            case hym34 => refine Or.inl ⟨by rfl, ?_⟩; intro W hSw; go_simp; try with_reducible rfl
            try simp only [Act.put, List.setIfInBounds_toArray, List.set_cons_zero, List.set_cons_succ]
            refine' wpAnyH_take (i := 26) (oi := _) (v := _) ?him35 (by kernel_rfl) ?hfm35 ?hrm35 ?hQm35 ?hym35 (hBm21) ?restm35
            case him35 => (simp only [List.getElem?_toArray, List.getElem?_cons_zero, List.getElem?_cons_succ]; rfl)
            case hfm35 => kernel_rfl
            case hrm35 => kernel_rfl
            case hQm35 => exact fun _ _ _ h => h
            case hym35 => refine Or.inl ⟨by rfl, ?_⟩; intro W hSw; go_simp; try with_reducible rfl
            try simp only [Act.put, List.setIfInBounds_toArray, List.set_cons_zero, List.set_cons_succ]
            refine wpAnyH_done (by kernel_rfl) ?_ _
            go_wp2_with fail
            go_ret
            exact ⟨rfl, below_on HB4.out (Nat.le_refl _) (below_on HR.out (Nat.le_refl _) hBm21)⟩
          | false =>
            have hbv : b0 = true := by rw [HPB.out]; rfl
            subst hbv
            have KI := Lib.hid (fun (W : World) (hW : Below wc.heap.size wc W) => show Calls Tryd.prog 9 #[.agg #[.slice A5 n5 c5, .slice B5 m5 d5]] W fun e w' => e = .returned (.bool true) ∧ Below W.heap.size W w' from by
              obtain ⟨xs, ys, hT0, hC⟩ := HTW.out (by trivial)
              have hT := hT0.below hW
              have hb0 := ON.out W (below_on HR.out (Nat.le_refl _) hW)
              have := is_any (w := W) (came_own hT.a hT.lta) (came_own hT.b hT.ltb) (by have := hT.na; omega) (by have := hT.nb; omega) (HK.out.1.below hb0) (HK.out.2.1.below hb0)
              rw [isC_true.2 hC] at this
              exact this)
            have hSo1 : Below wc.heap.size wc wc.drew := (Below.refl _ _).drew
            refine wp_region_held_drew (S := fun W => Below wc.heap.size wc W) (by kernel_rfl) (hSo1) (fun _ => ?_)
            change wpAnyH _ _ _ _ _ _ _ _ wc.drew
            generalize wc.drew = Wo2 at hSo1 ⊢
            refine wpAnyH_ready (rs := [0]) (by kernel_rfl) (by simp) ?_
            refine' (AllReadyH.cons (o := _) ?hio3 (fun K hK => ?_) AllReadyH.nil)
            case hio3 => (simp only [List.getElem?_toArray, List.getElem?_cons_zero]; rfl)
            go_simp
            go_at_call 8
            refine (KA.out Wo2 hSo1).mono ?_
            rintro e Wo6 ⟨rfl, hbo4⟩
            have hBo5 := below_on hSo1 (Nat.le_refl _) hbo4
            refine hK.out _ _ (hBo5) (fun _ => ?_)
            clear hK K
            try simp only [Act.put, List.setIfInBounds_toArray, List.set_cons_zero, List.set_cons_succ]
            refine' wpAnyH_take (i := 1) (oi := _) (v := _) ?hio7 (by kernel_rfl) ?hfo7 ?hro7 ?hQo7 ?hyo7 (hBo5) ?resto7
            case hio7 => (simp only [List.getElem?_toArray, List.getElem?_cons_zero, List.getElem?_cons_succ]; rfl)
            case hfo7 => kernel_rfl
            case hro7 => kernel_rfl
            case hQo7 => exact fun _ _ _ h => h
            case hyo7 => refine Or.inl ⟨by rfl, ?_⟩; intro W hSw; go_simp; try with_reducible rfl
            try simp only [Act.put, List.setIfInBounds_toArray, List.set_cons_zero, List.set_cons_succ]
            refine' wpAnyH_take (i := 2) (oi := _) (v := _) ?hio8 (by kernel_rfl) ?hfo8 ?hro8 ?hQo8 ?hyo8 (hBo5) ?resto8
            case hio8 => (simp only [List.getElem?_toArray, List.getElem?_cons_zero, List.getElem?_cons_succ]; rfl)
            case hfo8 => kernel_rfl
            case hro8 => kernel_rfl
            case hQo8 => exact fun _ _ _ h => h
            case hyo8 => refine Or.inl ⟨by rfl, ?_⟩; intro W hSw; go_simp; try with_reducible rfl
            try simp only [Act.put, List.setIfInBounds_toArray, List.set_cons_zero, List.set_cons_succ]
            refine' wpAnyH_take (i := 3) (oi := _) (v := _) ?hio9 (by kernel_rfl) ?hfo9 ?hro9 ?hQo9 ?hyo9 (hBo5) ?resto9
            case hio9 => (simp only [List.getElem?_toArray, List.getElem?_cons_zero, List.getElem?_cons_succ]; rfl)
            case hfo9 => kernel_rfl
            case hro9 => kernel_rfl
            case hQo9 => exact fun _ _ _ h => h
            case hyo9 => refine Or.inl ⟨by rfl, ?_⟩; intro W hSw; go_simp; try with_reducible rfl
            try simp only [Act.put, List.setIfInBounds_toArray, List.set_cons_zero, List.set_cons_succ]
            refine' wpAnyH_take (i := 4) (oi := _) (v := _) ?hio10 (by kernel_rfl) ?hfo10 ?hro10 ?hQo10 ?hyo10 (hBo5) ?resto10
            case hio10 => (simp only [List.getElem?_toArray, List.getElem?_cons_zero, List.getElem?_cons_succ]; rfl)
            case hfo10 => kernel_rfl
            case hro10 => kernel_rfl
            case hQo10 => exact fun _ _ _ h => h
            case hyo10 => refine Or.inl ⟨by rfl, ?_⟩; intro W hSw; go_simp; try with_reducible rfl
            try simp only [Act.put, List.setIfInBounds_toArray, List.set_cons_zero, List.set_cons_succ]
            refine' wpAnyH_take (i := 5) (oi := _) (v := _) ?hio11 (by kernel_rfl) ?hfo11 ?hro11 ?hQo11 ?hyo11 (hBo5) ?resto11
            case hio11 => (simp only [List.getElem?_toArray, List.getElem?_cons_zero, List.getElem?_cons_succ]; rfl)
            case hfo11 => kernel_rfl
            case hro11 => kernel_rfl
            case hQo11 => exact fun _ _ _ h => h
            case hyo11 => refine Or.inl ⟨by rfl, ?_⟩; intro W hSw; go_simp; try with_reducible rfl
            try simp only [Act.put, List.setIfInBounds_toArray, List.set_cons_zero, List.set_cons_succ]
            refine' wpAnyH_take (i := 6) (oi := _) (v := _) ?hio12 (by kernel_rfl) ?hfo12 ?hro12 ?hQo12 ?hyo12 (hBo5) ?resto12
            case hio12 => (simp only [List.getElem?_toArray, List.getElem?_cons_zero, List.getElem?_cons_succ]; rfl)
            case hfo12 => kernel_rfl
            case hro12 => kernel_rfl
            case hQo12 => exact fun _ _ _ h => h
            case hyo12 => refine Or.inl ⟨by rfl, ?_⟩; intro W hSw; have hcc := K3.out W hSw; go_simp; try with_reducible rfl
            try simp only [Act.put, List.setIfInBounds_toArray, List.set_cons_zero, List.set_cons_succ]
            refine' wpAnyH_take (i := 7) (oi := _) (v := _) ?hio13 (by kernel_rfl) ?hfo13 ?hro13 ?hQo13 ?hyo13 (hBo5) ?resto13
            case hio13 => (simp only [List.getElem?_toArray, List.getElem?_cons_zero, List.getElem?_cons_succ]; rfl)
            case hfo13 => kernel_rfl
            case hro13 => kernel_rfl
            case hQo13 => exact fun _ _ _ h => h
            case hyo13 => refine Or.inl ⟨by rfl, ?_⟩; intro W hSw; go_simp; try with_reducible rfl
            try simp only [Act.put, List.setIfInBounds_toArray, List.set_cons_zero, List.set_cons_succ]
            refine' wpAnyH_take (i := 8) (oi := _) (v := _) ?hio14 (by kernel_rfl) ?hfo14 ?hro14 ?hQo14 ?hyo14 (hBo5) ?resto14
            case hio14 => (simp only [List.getElem?_toArray, List.getElem?_cons_zero, List.getElem?_cons_succ]; rfl)
            case hfo14 => kernel_rfl
            case hro14 => kernel_rfl
            case hQo14 => exact fun _ _ _ h => h
            case hyo14 => refine Or.inl ⟨by rfl, ?_⟩; intro W hSw; have hcc := K0.out W hSw; go_simp; try with_reducible rfl
            try simp only [Act.put, List.setIfInBounds_toArray, List.set_cons_zero, List.set_cons_succ]
            refine' wpAnyH_take (i := 9) (oi := _) (v := _) ?hio15 (by kernel_rfl) ?hfo15 ?hro15 ?hQo15 ?hyo15 (hBo5) ?resto15
            case hio15 => (simp only [List.getElem?_toArray, List.getElem?_cons_zero, List.getElem?_cons_succ]; rfl)
            case hfo15 => kernel_rfl
            case hro15 => kernel_rfl
            case hQo15 => exact fun _ _ _ h => h
            case hyo15 => refine Or.inl ⟨by rfl, ?_⟩; intro W hSw; go_simp; try with_reducible rfl
            try simp only [Act.put, List.setIfInBounds_toArray, List.set_cons_zero, List.set_cons_succ]
            refine' wpAnyH_take (i := 10) (oi := _) (v := _) ?hio16 (by kernel_rfl) ?hfo16 ?hro16 ?hQo16 ?hyo16 (hBo5) ?resto16
            case hio16 => (simp only [List.getElem?_toArray, List.getElem?_cons_zero, List.getElem?_cons_succ]; rfl)
            case hfo16 => kernel_rfl
            case hro16 => kernel_rfl
            case hQo16 => exact fun _ _ _ h => h
            case hyo16 => refine Or.inl ⟨by rfl, ?_⟩; intro W hSw; have hcc := K2.out W hSw; go_simp; try with_reducible rfl
            try simp only [Act.put, List.setIfInBounds_toArray, List.set_cons_zero, List.set_cons_succ]
            refine' wpAnyH_take (i := 11) (oi := _) (v := _) ?hio17 (by kernel_rfl) ?hfo17 ?hro17 ?hQo17 ?hyo17 (hBo5) ?resto17
            case hio17 => (simp only [List.getElem?_toArray, List.getElem?_cons_zero, List.getElem?_cons_succ]; rfl)
            case hfo17 => kernel_rfl
            case hro17 => kernel_rfl
            case hQo17 => exact fun _ _ _ h => h
            case hyo17 => refine Or.inl ⟨by rfl, ?_⟩; intro W hSw; go_simp; try with_reducible rfl
            try simp only [Act.put, List.setIfInBounds_toArray, List.set_cons_zero, List.set_cons_succ]
            refine' wpAnyH_take (i := 12) (oi := _) (v := _) ?hio18 (by kernel_rfl) ?hfo18 ?hro18 ?hQo18 ?hyo18 (hBo5) ?resto18
            case hio18 => (simp only [List.getElem?_toArray, List.getElem?_cons_zero, List.getElem?_cons_succ]; rfl)
            case hfo18 => kernel_rfl
            case hro18 => kernel_rfl
            case hQo18 => exact fun _ _ _ h => h
            case hyo18 => refine Or.inl ⟨by rfl, ?_⟩; intro W hSw; have hcc := KE.out W hSw; go_simp; try with_reducible rfl
            try simp only [Act.put, List.setIfInBounds_toArray, List.set_cons_zero, List.set_cons_succ]
            refine wpAnyH_ready (rs := [13]) (by kernel_rfl) (by simp) ?_
            refine' (AllReadyH.cons (o := _) ?hio19 (fun K hK => ?_) AllReadyH.nil)
            case hio19 => (simp only [List.getElem?_toArray, List.getElem?_cons_zero, List.getElem?_cons_succ]; rfl)
            go_simp
            go_at_call 10
            refine (KS.out Wo6 hBo5).mono ?_
            rintro e Wo22 ⟨rfl, hbo20⟩
            have hBo21 := below_on hBo5 (Nat.le_refl _) hbo20
            refine hK.out _ _ (hBo21) (fun _ => ?_)
            clear hK K
            try simp only [Act.put, List.setIfInBounds_toArray, List.set_cons_zero, List.set_cons_succ]
            refine' wpAnyH_take (i := 14) (oi := _) (v := _) ?hio23 (by kernel_rfl) ?hfo23 ?hro23 ?hQo23 ?hyo23 (hBo21) ?resto23
            case hio23 => (simp only [List.getElem?_toArray, List.getElem?_cons_zero, List.getElem?_cons_succ]; rfl)
            case hfo23 => kernel_rfl
            case hro23 => kernel_rfl
            case hQo23 => exact fun _ _ _ h => h
            case hyo23 => refine Or.inl ⟨by rfl, ?_⟩; intro W hSw; go_simp; try with_reducible rfl
            try simp only [Act.put, List.setIfInBounds_toArray, List.set_cons_zero, List.set_cons_succ]
            refine' wpAnyH_take (i := 15) (oi := _) (v := _) ?hio24 (by kernel_rfl) ?hfo24 ?hro24 ?hQo24 ?hyo24 (hBo21) ?resto24
            case hio24 => (simp only [List.getElem?_toArray, List.getElem?_cons_zero, List.getElem?_cons_succ]; rfl)
            case hfo24 => kernel_rfl
            case hro24 => kernel_rfl
            case hQo24 => exact fun _ _ _ h => h
            case hyo24 => refine Or.inl ⟨by rfl, ?_⟩; intro W hSw; go_simp; try with_reducible rfl
            try simp only [Act.put, List.setIfInBounds_toArray, List.set_cons_zero, List.set_cons_succ]
            refine' wpAnyH_take (i := 16) (oi := _) (v := _) ?hio25 (by kernel_rfl) ?hfo25 ?hro25 ?hQo25 ?hyo25 (hBo21) ?resto25
            case hio25 => (simp only [List.getElem?_toArray, List.getElem?_cons_zero, List.getElem?_cons_succ]; rfl)
            case hfo25 => kernel_rfl
            case hro25 => kernel_rfl
            case hQo25 => exact fun _ _ _ h => h
            case hyo25 => refine Or.inl ⟨by rfl, ?_⟩; intro W hSw; go_simp; try with_reducible rfl
            try simp only [Act.put, List.setIfInBounds_toArray, List.set_cons_zero, List.set_cons_succ]
            refine' wpAnyH_take (i := 17) (oi := _) (v := _) ?hio26 (by kernel_rfl) ?hfo26 ?hro26 ?hQo26 ?hyo26 (hBo21) ?resto26
            case hio26 => (simp only [List.getElem?_toArray, List.getElem?_cons_zero, List.getElem?_cons_succ]; rfl)
            case hfo26 => kernel_rfl
            case hro26 => kernel_rfl
            case hQo26 => exact fun _ _ _ h => h
            case hyo26 => refine Or.inl ⟨by rfl, ?_⟩; intro W hSw; go_simp; try with_reducible rfl
            try simp only [Act.put, List.setIfInBounds_toArray, List.set_cons_zero, List.set_cons_succ]
            refine' wpAnyH_take (i := 18) (oi := _) (v := _) ?hio27 (by kernel_rfl) ?hfo27 ?hro27 ?hQo27 ?hyo27 (hBo21) ?resto27
            case hio27 => (simp only [List.getElem?_toArray, List.getElem?_cons_zero, List.getElem?_cons_succ]; rfl)
            case hfo27 => kernel_rfl
            case hro27 => kernel_rfl
            case hQo27 => exact fun _ _ _ h => h
            case hyo27 => refine Or.inl ⟨by rfl, ?_⟩; intro W hSw; go_simp; try with_reducible rfl
            try simp only [Act.put, List.setIfInBounds_toArray, List.set_cons_zero, List.set_cons_succ]
            refine' wpAnyH_take (i := 19) (oi := _) (v := _) ?hio28 (by kernel_rfl) ?hfo28 ?hro28 ?hQo28 ?hyo28 (hBo21) ?resto28
            case hio28 => (simp only [List.getElem?_toArray, List.getElem?_cons_zero, List.getElem?_cons_succ]; rfl)
            case hfo28 => kernel_rfl
            case hro28 => kernel_rfl
            case hQo28 => exact fun _ _ _ h => h
            case hyo28 => refine Or.inl ⟨by rfl, ?_⟩; intro W hSw; go_simp; try with_reducible rfl
            try simp only [Act.put, List.setIfInBounds_toArray, List.set_cons_zero, List.set_cons_succ]
            refine' wpAnyH_take (i := 20) (oi := _) (v := _) ?hio29 (by kernel_rfl) ?hfo29 ?hro29 ?hQo29 ?hyo29 (hBo21) ?resto29
            case hio29 => (simp only [List.getElem?_toArray, List.getElem?_cons_zero, List.getElem?_cons_succ]; rfl)
            case hfo29 => kernel_rfl
            case hro29 => kernel_rfl
            case hQo29 => exact fun _ _ _ h => h
            case hyo29 => refine Or.inl ⟨by rfl, ?_⟩; intro W hSw; go_simp; try with_reducible rfl
            try simp only [Act.put, List.setIfInBounds_toArray, List.set_cons_zero, List.set_cons_succ]
            refine' wpAnyH_take (i := 21) (oi := _) (v := _) ?hio30 (by kernel_rfl) ?hfo30 ?hro30 ?hQo30 ?hyo30 (hBo21) ?resto30
            case hio30 => (simp only [List.getElem?_toArray, List.getElem?_cons_zero, List.getElem?_cons_succ]; rfl)
            case hfo30 => kernel_rfl
            case hro30 => kernel_rfl
            case hQo30 => exact fun _ _ _ h => h
            case hyo30 => refine Or.inl ⟨by rfl, ?_⟩; intro W hSw; go_simp; try with_reducible rfl
            try simp only [Act.put, List.setIfInBounds_toArray, List.set_cons_zero, List.set_cons_succ]
            refine' wpAnyH_take (i := 22) (oi := _) (v := .agg #[.slice A5 n5 c5, .slice B5 m5 d5]) ?hio31 (by kernel_rfl) ?hfo31 ?hro31 ?hQo31 ?hyo31 (hBo21) ?resto31
            case hio31 => (simp only [List.getElem?_toArray, List.getElem?_cons_zero, List.getElem?_cons_succ]; rfl)
            case hfo31 => kernel_rfl
            case hro31 => kernel_rfl
            case hQo31 => exact fun _ _ _ h => h
            case hyo31 => refine Or.inl ⟨by rfl, ?_⟩; intro W hSw; exact load_clash_op (.tmp 3) (by rfl) (by rfl) (HCW.out.below hSw)
            try simp only [Act.put, List.setIfInBounds_toArray, List.set_cons_zero, List.set_cons_succ]
            refine wpAnyH_ready (rs := [23]) (by kernel_rfl) (by simp) ?_
            refine' (AllReadyH.cons (o := _) ?hio32 (fun K hK => ?_) AllReadyH.nil)
            case hio32 => (simp only [List.getElem?_toArray, List.getElem?_cons_zero, List.getElem?_cons_succ]; rfl)
            go_simp
            go_at_call 9
            refine (KI.out Wo22 hBo21).mono ?_
            rintro e Wo35 ⟨rfl, hbo33⟩
            have hBo34 := below_on hBo21 (Nat.le_refl _) hbo33
            refine hK.out _ _ (hBo34) (fun _ => ?_)
            clear hK K
            try simp only [Act.put, List.setIfInBounds_toArray, List.set_cons_zero, List.set_cons_succ]
            refine' wpAnyH_take (i := 24) (oi := _) (v := _) ?hio36 (by kernel_rfl) ?hfo36 ?hro36 ?hQo36 ?hyo36 (hBo34) ?resto36
            case hio36 => (simp only [List.getElem?_toArray, List.getElem?_cons_zero, List.getElem?_cons_succ]; rfl)
            case hfo36 => kernel_rfl
            case hro36 => kernel_rfl
            case hQo36 => exact fun _ _ _ h => h
            case hyo36 => refine Or.inl ⟨by rfl, ?_⟩; intro W hSw; go_simp; try with_reducible rfl
            try simp only [Act.put, List.setIfInBounds_toArray, List.set_cons_zero, List.set_cons_succ]
            refine' wpAnyH_take (i := 25) (oi := _) (v := _) ?hio37 (by kernel_rfl) ?hfo37 ?hro37 ?hQo37 ?hyo37 (hBo34) ?resto37
            case hio37 => (simp only [List.getElem?_toArray, List.getElem?_cons_zero, List.getElem?_cons_succ]; rfl)
            case hfo37 => kernel_rfl
            case hro37 => kernel_rfl
            case hQo37 => exact fun _ _ _ h => h
            case hyo37 => refine Or.inl ⟨by rfl, ?_⟩; intro W hSw; go_simp; try with_reducible rfl
            try simp only [Act.put, List.setIfInBounds_toArray, List.set_cons_zero, List.set_cons_succ]
            refine' wpAnyH_take (i := 26) (oi := _) (v := _) ?hio38 (by kernel_rfl) ?hfo38 ?hro38 ?hQo38 ?hyo38 (hBo34) ?resto38
            case hio38 => (simp only [List.getElem?_toArray, List.getElem?_cons_zero, List.getElem?_cons_succ]; rfl)
            case hfo38 => kernel_rfl
            case hro38 => kernel_rfl
            case hQo38 => exact fun _ _ _ h => h
            case hyo38 => refine Or.inl ⟨by rfl, ?_⟩; intro W hSw; go_simp; try with_reducible rfl
            try simp only [Act.put, List.setIfInBounds_toArray, List.set_cons_zero, List.set_cons_succ]
            refine wpAnyH_done (by kernel_rfl) ?_ _
            go_wp2_with fail
            go_ret
            exact ⟨rfl, below_on HB4.out (Nat.le_refl _) (below_on HR.out (Nat.le_refl _) hBo34)⟩

end Go.Proofs.YtcekfnngnjpeeaaDoor

/-
  What the listed variables hold when a call begins.
-/
namespace Go.Proofs.YtcekfnngnjpeeaaDoor
open Go.ChangeShapes Go.WideShapes Go.ChangeAt Go.RowKit

theorem cellsU32 : Tryd.prog.cellsOf 78 = 1 := by kernel_rfl

/-- An array of numbers of 32 bits that reads as the literals l holds them. -/
theorem cells_of_trod {H : Type} {enc : TypeId × Value → H} {w : World} {base : Nat} {sp : Nat → Bool} {held : Bool} {fuel n : Nat} {T : TypeId} {cs : List Value} {q : List MemPlace} {l : List Nat}
    (ht : Tryd.prog.underlying T = some (.array n 78)) (hl : l.length = n) (h : DataW.trod enc Tryd.prog w base sp held fuel T cs = some (.agg (l.map fun (x : Nat) => .lit (.int .u32 (x : Int))), q)) :
    ∀ i, i < n → cs[i]? = some (.int .u32 ((l.getD i 0 : Nat) : Int)) := by
  obtain ⟨xs, m1, rfl, hx, hlen, hn, hel⟩ := DataW.trod_array ht h
  injection hx with hx1 hx2
  injection hx1 with hx1
  intro i hi
  have he := hel i hi
  have hxi : xs[i]? = some xs[i] := List.getElem?_eq_getElem (by omega)
  rw [hxi, cellsU32, Nat.mul_one] at he
  obtain ⟨z, e1, e2, _⟩ := DataW.trod_int Tryd.underlying78 he
  have e3 : (l.map fun (x : Nat) => (DataW.lit (.int .u32 (x : Int)) : DataW H))[i]? = (xs.map (·.1))[i]? := by rw [hx1]
  rw [List.getElem?_map, List.getElem?_map, hxi, e2, List.getElem?_eq_getElem (by omega)] at e3
  simp only [Option.map_some, Option.some.injEq, DataW.lit.injEq, Lit.int.injEq, true_and] at e3
  have e4 : cs[i]? = some (.int .u32 z) := by
    have := congrArg (fun t => t[0]?) e1
    simpa [List.getElem?_take, List.getElem?_drop] using this
  rw [e4, ← e3, List.getD_eq_getElem?_getD, List.getElem?_eq_getElem (by omega)]
  rfl

theorem gStart : Tryd.prog.globalNamed "almoner/shas.start" = some 1 := by kernel_rfl
theorem gAdded : Tryd.prog.globalNamed "almoner/shas.added" = some 2 := by kernel_rfl
theorem tStart : (Tryd.prog.globals[1]?).map (·.type) = some 79 := by kernel_rfl
theorem tAdded : (Tryd.prog.globals[2]?).map (·.type) = some 110 := by kernel_rfl

def laid2 : List (String × DataW Unit) := [("almoner/shas.start", Rows.laid_almoner_shas_start), ("almoner/shas.added", Rows.laid_almoner_shas_added)]

theorem of_laid {W : World} (h : laidMetH Tryd.prog laid2 W) : Starts W ∧ Knows W := by
  rw [MakeChecks.laidMetH_plain _ _ _ (by kernel_rfl)] at h
  obtain ⟨ps, ⟨g0, t0, cs0, f0, p0, q0, hg0, ht0, hv0, hd0, ⟨g1, t1, cs1, f1, p1, q1, hg1, ht1, hv1, hd1, _, _⟩, _⟩, _, _⟩ := h
  obtain rfl := Option.some.inj (gStart.symm.trans hg0)
  obtain rfl := Option.some.inj (gAdded.symm.trans hg1)
  obtain rfl := Option.some.inj (tStart.symm.trans ht0)
  obtain rfl := Option.some.inj (tAdded.symm.trans ht1)
  have k0 := cells_of_trod (l := h0) Tryd.underlying79 rfl hd0
  have k1 := cells_of_trod (l := kAdd) Tryd.underlying110 rfl hd1
  refine ⟨fun j v hv => ?_, fun i hi => ?_⟩
  · have hj : j < 8 := by have := (List.getElem?_eq_some_iff.1 hv).1; rw [uvs_length] at this; exact this
    have e := World.var?_cell hg0 hv0 j
    rw [Nat.zero_add, e, ← Array.getElem?_toList, k0 j hj, ← hv, uvs_get, List.getD_eq_getElem?_getD, List.getElem?_eq_getElem (show j < h0.length from hj)]
    rfl
  · rw [World.var?_cell hg1 hv1 i, ← Array.getElem?_toList, k1 i hi]

end Go.Proofs.YtcekfnngnjpeeaaDoor

/-
  What the three listed variables hold when a call begins: two of package shas, and the sentinel of package links.
-/
namespace Go.Proofs.YtcekfnngnjpeeaaDoor
open Go.ChangeShapes Go.WideShapes Go.ChangeAt Go.RowKit

theorem gMissing : Tryd.prog.globalNamed "almoner/links.errMissing" = some 0 := by kernel_rfl
theorem tMissing : (Tryd.prog.globals[0]?).map (·.type) = some 72 := by kernel_rfl
theorem cellsEs : Tryd.prog.cellsOf 152 = 1 := by kernel_rfl
theorem cellsStr : Tryd.prog.cellsOf 9 = 1 := by kernel_rfl
theorem starEs : "*" ++ "errors.errorString" = "*errors.errorString" := by decide
theorem rowEs (u : TypeId) (h : Tryd.prog.typeName? 3 u = some "*errors.errorString") : u = 127 :=
  typeName_ptr_named (nm := "errors.errorString") (by rw [starEs]; kernel_rfl) (by kernel_rfl) (by decide) u (by rw [starEs]; exact h)

def laid1 : List (String × DataW Unit) := [("almoner/links.errMissing", Rows.laid_almoner_links_errMissing)]

set_option maxRecDepth 100000 in
theorem of_laid1 {W : World} (h : laidMetH Tryd.prog laid1 W) : ∃ E, Miss W E := by
  rw [MakeChecks.laidMetH_plain _ _ _ (by kernel_rfl)] at h
  obtain ⟨ps, ⟨g0', t0', cs0, f0, p0, q0, hg0', ht0', hv0, hd0, _, e0⟩, hnd, hrows⟩ := h
  obtain rfl := Option.some.inj (gMissing.symm.trans hg0')
  obtain rfl := Option.some.inj (tMissing.symm.trans ht0')
  subst e0
  obtain ⟨l0⟩ := cs0
  have ok0 : ∀ u v, l0 = [.iface u v] → Value.okWide Tryd.prog W .any 0 u v := fun u v e => by
    subst e
    exact (hrows 0 0 (by simp [MemPlace.row])).2 u v (by simpa using World.var?_cell hg0' hv0 0)
  obtain ⟨a0, s0, rfl, hc0, hs0, hz0, rfl⟩ := errorString_of_trod Tryd.underlying72 rowEs Tryd.underlying127 Tryd.underlying152 rfl rfl Tryd.underlying9 cellsEs cellsStr hd0 ok0
  exact ⟨a0, by simpa [Miss, missV] using World.var?_cell hg0' hv0 0⟩

def laidK : List (String × DataW Unit) := [("almoner/shas.start", Rows.laid_almoner_shas_start), ("almoner/shas.added", Rows.laid_almoner_shas_added), ("almoner/links.errMissing", Rows.laid_almoner_links_errMissing)]
def isShas (x : String × DataW Unit) : Bool := ["almoner/shas.start", "almoner/shas.added"].contains x.1
def isMiss (x : String × DataW Unit) : Bool := ["almoner/links.errMissing"].contains x.1
theorem laidK_shas : laidK.filter isShas = laid2 := by
  unfold laidK laid2 isShas
  simp [List.filter]
theorem laidK_miss : laidK.filter isMiss = laid1 := by
  unfold laidK laid1 isMiss
  simp [List.filter]

theorem of_laidK {W : World} (h : laidMetH Tryd.prog laidK W) : (Starts W ∧ Knows W) ∧ ∃ E, Miss W E := by
  have h1 := h.filter isShas
  rw [laidK_shas] at h1
  have h2 := h.filter isMiss
  rw [laidK_miss] at h2
  exact ⟨of_laid h1, of_laid1 h2⟩

end Go.Proofs.YtcekfnngnjpeeaaDoor
