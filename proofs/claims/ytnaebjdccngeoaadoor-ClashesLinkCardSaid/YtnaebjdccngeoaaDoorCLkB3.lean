/-
  Several texts in one: CDLink, LStoreSum, KIs, KMiss, KNext, KLeft, KLead, KLeadAll, KEnds, KCheck.
-/
import Derived.Test.YtnaebjdccngeoaaDoorCLkB2
import Derived.Test.YtnaebjdccngeoaaDoorKPure
import Derived.Test.YtnaebjdccngeoaaDoorLSum
import Derived.Test.YtnaebjdccngeoaaDoorLBArr
import Derived.Deep.MidRow
import Derived.Test.YtnaebjdccngeoaaDoorLMem
import Derived.WalkKit
import Derived.LaidEql
import Derived.Stop.Asserts
import Derived.RowKitTokens
import Derived.Test.YtnaebjdccngeoaaDoorVTools
import Derived.Test.YtnaebjdccngeoaaDoorKPair
import Derived.Test.YtnaebjdccngeoaaDoorKBuild
import Derived.Test.YtnaebjdccngeoaaDoorVNode
import Derived.Laws.EntriesVeiled
/-
  clashes.downLink: both roots, and what a link leads to; or a clash.
-/
namespace Go.Proofs.YtnaebjdccngeoaaDoor
open Go.RowKit

/-- The world in which downLink begins. -/
structure DLIn (w wz : World) (g : Nat) (x y : Value) : Prop where
  both : Cells wz g 66 #[x, y]
  old : BArr wz (g + 1) 63 zero64
  grown : BArr wz (g + 2) 63 zero64
  below : Below g w wz
  size : wz.heap.size = g + 3
theorem DLIn.mk_ (w : World) (g : Nat) (x y : Value) (hg : w.heap.size = g) : DLIn w (((w.alloc (.cells #[x, y] 66)).alloc (.cells (bvs zero64).toArray 63)).alloc (.cells (bvs zero64).toArray 63)) g x y := by
  have h0 := Cells.new w 66 #[x, y]
  have b0 := below_alloc w (.cells #[x, y] 66)
  obtain ⟨w0, e0⟩ : ∃ w0, w0 = w.alloc (.cells #[x, y] 66) := ⟨_, rfl⟩
  have s0 : w0.heap.size = g + 1 := by rw [e0]; simp [hg]
  rw [← e0] at h0 b0 ⊢
  have h1 := BArr.new w0 63 zero64
  have b1 := below_alloc w0 (.cells (bvs zero64).toArray 63)
  obtain ⟨w1, e1⟩ : ∃ w1, w1 = w0.alloc (.cells (bvs zero64).toArray 63) := ⟨_, rfl⟩
  have s1 : w1.heap.size = g + 2 := by rw [e1]; simp [s0]
  rw [← e1] at h1 b1 ⊢
  have h2 := BArr.new w1 63 zero64
  have b2 := below_alloc w1 (.cells (bvs zero64).toArray 63)
  rw [hg] at h0 b0
  rw [s0] at h1
  rw [s1] at h2
  exact ⟨(h0.below b1).below b2, h1.below b2, h2, below_on (below_on b0 (by omega) b1) (by omega) b2, by simp [s1]⟩
theorem below_of_but {S : Nat → Prop} {g : Nat} {w0 a w' : World} (h : But S a w') (hb : Below g w0 a) (hS : ∀ x, S x → g ≤ x) (hg : g ≤ a.heap.size) : Below g w0 w' :=
  hb.trans ⟨h.os, h.tape, h.output, h.size, fun b hlt => h.block b (by omega) (fun hs => by have := hS b hs; omega)⟩
theorem two_ge {g : Nat} : ∀ x, (x = g + 1 ∨ x = g + 2) → g ≤ x := fun x h => by omega
/-- A pair that a variable holds, loaded, in a drawn region. -/
theorem step_load_pairC {o : Oper} {a : Act} {w : World} {K : Act → World → Prop} {Q : Exit → Act → World → Prop} (x : Operand) (ho : o.op = .load 63 x) {g : Nat} (hx : a.eval x = .pointer (some ⟨g, 0, none⟩)) {T : TypeId} (s : List Nat) (hs : s.length = 64) (h : BArr w g T s)
    (hK : K (a.put o.dst (sv s)) w) : Oper.wp Tryd.prog o a w K Q := by
  unfold Oper.wp
  rw [load_pair_op x ho hx hs h]
  exact hK
theorem wpList_exec {ops : Array Oper} {rest : List Oper} {o : Oper} {a : Act} {w : World} {Q : Exit → Act → World → Prop} (hgd : o.guard = none) (v : Value)
    (h : (execOp a.eval o).run Tryd.prog w = .ok (.value v) w) (hn : wpList Tryd.prog ops Q rest (a.put o.dst v) w) : wpList Tryd.prog ops Q (o :: rest) a w := by
  refine wpList_plain hgd fun K hK => ?_
  unfold Oper.wp
  rw [h]
  exact hK _ _ hn

theorem at_fst {w : World} {p : Nat} {T : TypeId} {x y : List Nat} (h : BArr w p T (x ++ y)) : At w ⟨p, 0, none⟩ x := fun j z hz => h.at_ j z (by rw [List.getElem?_append_left (List.getElem?_eq_some_iff.1 hz).1]; exact hz)
theorem at_snd {w : World} {p : Nat} {T : TypeId} {x y : List Nat} (h : BArr w p T (x ++ y)) (hx : x.length = 32) : At w ⟨p, 32, none⟩ y := fun j z hz => by
  have := h.at_ (32 + j) z (by rw [List.getElem?_append_right (by omega), hx, show 32 + j - 32 = j by omega]; exact hz)
  rw [show (⟨p, 32, none⟩ : Addr).add j = (⟨p, 0, none⟩ : Addr).add (32 + j) from by unfold Addr.add; split <;> split <;> simp_all]
  exact this

section
variable {w : World} {A B : Addr} {P : Option Addr} {n m c d q r : Nat} {R S : List (List Nat)} {a ys : List Nat} {edge : Bool}

set_option maxRecDepth 100000 in
set_option maxHeartbeats 16000000 in
theorem dlink_low (E1 : Ent w (some A) m c R) (E2 : Ent w (some B) n d S) (hI : InS w P q ys) (hy : ∀ x ∈ ys, x < 256) (hqr : q ≤ r) (hq : q = ldep m n edge) (h1m : 1 ≤ m) (_ : m ≤ n) (hn6 : n ≤ 60000) (la : a.length = 32) (ba : ∀ x ∈ a, x < 256) (hae : edge = true → a = rtl R) (hk : Knows w) (hks : Starts w) (h2n : ¬(n < 2 ∨ m = n)) (hside : m ≤ cutN n)
    (ih : ∀ k, k < n → ∀ (w : World) (A B : Addr) (P : Option Addr) (c d q m : Nat) (edge : Bool) (R S : List (List Nat)) (ys : List Nat), Ent w (some A) m c R → Ent w (some B) k d S → InS w P q ys → (∀ x ∈ ys, x < 256) → q ≤ r → q = ldep m k edge → 1 ≤ m → m ≤ k → (edge = true → a = rtl R) → Knows w → Starts w →
      Calls Tryd.prog 39 #[.agg #[.slice (some A) m c, .slice (some B) k d], .slice P q r, .bool edge] w fun e w' => Told w.heap.size (.tuple #[sv (rtl R ++ (linkF (nth ys) a m k edge 0).1), sv (rtl S ++ (linkF (nth ys) a m k edge 0).2)]) (rtl R = (linkF (nth ys) a m k edge 0).1 → rtl S = (linkF (nth ys) a m k edge 0).2 → R = S.take m) e w' ∧ Below w.heap.size w w') :
    Calls Tryd.prog 39 #[.agg #[.slice (some A) m c, .slice (some B) n d], .slice P q r, .bool edge] w fun e w' => Told w.heap.size (.tuple #[sv (rtl R ++ (linkF (nth ys) a m n edge 0).1), sv (rtl S ++ (linkF (nth ys) a m n edge 0).2)]) (rtl R = (linkF (nth ys) a m n edge 0).1 → rtl S = (linkF (nth ys) a m n edge 0).2 → R = S.take m) e w' ∧ Below w.heap.size w w' := by
  obtain ⟨g, hg⟩ : ∃ g, w.heap.size = g := ⟨_, rfl⟩
  have hz := DLIn.mk_ w g (.slice (some A) m c) (.slice (some B) n d) hg
  have e0 : (bvs zero64).toArray = #[.int .u8 0, .int .u8 0, .int .u8 0, .int .u8 0, .int .u8 0, .int .u8 0, .int .u8 0, .int .u8 0, .int .u8 0, .int .u8 0, .int .u8 0, .int .u8 0, .int .u8 0, .int .u8 0, .int .u8 0, .int .u8 0, .int .u8 0, .int .u8 0, .int .u8 0, .int .u8 0, .int .u8 0, .int .u8 0, .int .u8 0, .int .u8 0, .int .u8 0, .int .u8 0, .int .u8 0, .int .u8 0, .int .u8 0, .int .u8 0, .int .u8 0, .int .u8 0, .int .u8 0, .int .u8 0, .int .u8 0, .int .u8 0, .int .u8 0, .int .u8 0, .int .u8 0, .int .u8 0, .int .u8 0, .int .u8 0, .int .u8 0, .int .u8 0, .int .u8 0, .int .u8 0, .int .u8 0, .int .u8 0, .int .u8 0, .int .u8 0, .int .u8 0, .int .u8 0, .int .u8 0, .int .u8 0, .int .u8 0, .int .u8 0, .int .u8 0, .int .u8 0, .int .u8 0, .int .u8 0, .int .u8 0, .int .u8 0, .int .u8 0, .int .u8 0] := rfl
  rw [e0] at hz
  obtain ⟨wz, hwz⟩ : ∃ x, x = ((w.alloc (.cells #[.slice (some A) m c, .slice (some B) n d] 66)).alloc (.cells #[.int .u8 0, .int .u8 0, .int .u8 0, .int .u8 0, .int .u8 0, .int .u8 0, .int .u8 0, .int .u8 0, .int .u8 0, .int .u8 0, .int .u8 0, .int .u8 0, .int .u8 0, .int .u8 0, .int .u8 0, .int .u8 0, .int .u8 0, .int .u8 0, .int .u8 0, .int .u8 0, .int .u8 0, .int .u8 0, .int .u8 0, .int .u8 0, .int .u8 0, .int .u8 0, .int .u8 0, .int .u8 0, .int .u8 0, .int .u8 0, .int .u8 0, .int .u8 0, .int .u8 0, .int .u8 0, .int .u8 0, .int .u8 0, .int .u8 0, .int .u8 0, .int .u8 0, .int .u8 0, .int .u8 0, .int .u8 0, .int .u8 0, .int .u8 0, .int .u8 0, .int .u8 0, .int .u8 0, .int .u8 0, .int .u8 0, .int .u8 0, .int .u8 0, .int .u8 0, .int .u8 0, .int .u8 0, .int .u8 0, .int .u8 0, .int .u8 0, .int .u8 0, .int .u8 0, .int .u8 0, .int .u8 0, .int .u8 0, .int .u8 0, .int .u8 0] 63)).alloc (.cells #[.int .u8 0, .int .u8 0, .int .u8 0, .int .u8 0, .int .u8 0, .int .u8 0, .int .u8 0, .int .u8 0, .int .u8 0, .int .u8 0, .int .u8 0, .int .u8 0, .int .u8 0, .int .u8 0, .int .u8 0, .int .u8 0, .int .u8 0, .int .u8 0, .int .u8 0, .int .u8 0, .int .u8 0, .int .u8 0, .int .u8 0, .int .u8 0, .int .u8 0, .int .u8 0, .int .u8 0, .int .u8 0, .int .u8 0, .int .u8 0, .int .u8 0, .int .u8 0, .int .u8 0, .int .u8 0, .int .u8 0, .int .u8 0, .int .u8 0, .int .u8 0, .int .u8 0, .int .u8 0, .int .u8 0, .int .u8 0, .int .u8 0, .int .u8 0, .int .u8 0, .int .u8 0, .int .u8 0, .int .u8 0, .int .u8 0, .int .u8 0, .int .u8 0, .int .u8 0, .int .u8 0, .int .u8 0, .int .u8 0, .int .u8 0, .int .u8 0, .int .u8 0, .int .u8 0, .int .u8 0, .int .u8 0, .int .u8 0, .int .u8 0, .int .u8 0] 63) := ⟨_, rfl⟩
  rw [← hwz] at hz
  have HW := Lib.hid hwz
  have HG := Lib.hid hg
  have HZ := Lib.hid hz
  have b0z : Below w.heap.size w wz := by rw [hg]; exact hz.below
  have B0 := Lib.hid b0z
  have HC0 := Lib.hid (fun (W : World) (hW : Below wz.heap.size wz W) => show W.cell? ⟨g, 0, none⟩ = some (.slice (some A) m c) from (hz.both.below hW).cell 0 rfl)
  have HC1 := Lib.hid (fun (W : World) (hW : Below wz.heap.size wz W) => show W.cell? ⟨g, 1, none⟩ = some (.slice (some B) n d) from (hz.both.below hW).cell 1 rfl)
  have hdp := hq.trans (ldep_low h2n hside edge)
  have hlf := linkF_low (nth ys) a h2n hside edge 0
  have h2 : 2 ≤ n := by omega
  have hcl := cutN_lt h2
  have hcp := cutN_pos n
  have hcS := rtl_cut E2.len h2
  have hmn : ((m : Int) == (n : Int)) = false := by simp; omega
  obtain ⟨k, hk0⟩ : ∃ k, cutN n = k := ⟨_, rfl⟩
  have CL := Lib.hid (fun (W : World) => show Calls Tryd.prog 66 #[.int .i64 (n : Int)] W fun e w' => e = .returned (.int .i64 (k : Int)) ∧ w' = W from (cleft_any n W h2 (by omega)).mono fun e w' ⟨h1, h2⟩ => ⟨by rw [h1, hk0], h2⟩)
  have hq1 : 1 ≤ q := by omega
  have hqb : q ≤ 65 := by rw [hq]; exact ldep_64 (by omega) _ _
  obtain ⟨pd, rfl⟩ := hI.some_ (by omega)
  obtain ⟨Z, hZ⟩ : ∃ Z, nth ys (q - 1) = Z := ⟨_, rfl⟩
  have Zl : Z.length = 32 := by rw [← hZ]; exact nth_length hI.len (by omega)
  have Zb : ∀ x ∈ Z, x < 256 := by rw [← hZ]; exact nth_lt hy _
  obtain ⟨pd', epd, _, hatZ⟩ := hI.at_ (k := q - 1) (by omega)
  cases epd
  rw [hZ] at hatZ
  obtain ⟨S1, hS1⟩ : ∃ x, S.take k = x := ⟨_, rfl⟩
  obtain ⟨S2, hS2⟩ : ∃ x, S.drop k = x := ⟨_, rfl⟩
  have hpb : pd.block < g := by
    have := hatZ 0 (Z.getD 0 0) (by rw [List.getD_eq_getElem?_getD, List.getElem?_eq_getElem (by omega)]; rfl)
    have h1 := World.block_lt_of_cell? w _ this
    rw [block_add, block_add, hg] at h1
    exact h1
  have HAZ := Lib.hid (fun (W : World) (hW : But (fun x => x = g + 1 ∨ x = g + 2) wz W) => show At W (pd.add ((q - 1) * 32)) Z from but_at hW ((hatZ.below b0z)) (by intro e; rw [block_add] at e; omega))
  rw [hk0] at hcl hcp hcS hdp hlf hside
  rw [hS1, hS2] at hcS
  obtain ⟨L1, hL1⟩ : ∃ L, (linkF (nth ys) a m k edge 0).1 = L := ⟨_, rfl⟩
  obtain ⟨L2, hL2⟩ : ∃ L, (linkF (nth ys) a m k edge 0).2 = L := ⟨_, rfl⟩
  have hLl := linkF_of (P := fun l => l.length = 32) sha_length (nth ys) a la k m edge 0 (fun j hj => nth_length hI.len (by omega))
  have hLb := linkF_of (P := fun l => ∀ x ∈ l, x < 256) sha_lt (nth ys) a ba k m edge 0 (fun j _ => nth_lt hy _)
  rw [hL1, hL2] at hLl hLb
  have e1 : (linkF (nth ys) a m n edge 0).1 = L1 := by rw [hlf, hL1]
  have e2 : (linkF (nth ys) a m n edge 0).2 = nodeL L2 Z := by rw [hlf, hL2, Nat.zero_add, show ldep m k edge = q - 1 by omega, hZ]
  have hfin : R = S1.take m → R = S.take m := fun h => by rw [h, ← hS1, List.take_take, Nat.min_eq_left hside]
  have C1 := Lib.hid (fun (W : World) (hW : Below w.heap.size w W) => show Calls Tryd.prog 39 #[.agg #[.slice (some A) m c, .slice (some B) k d], .slice (some pd) (q - 1) r, .bool edge] W fun e w' => Told g (.tuple #[sv (rtl R ++ L1), sv (rtl S1 ++ L2)]) (rtl R = L1 → rtl S1 = L2 → R = S1.take m) e w' ∧ Below W.heap.size W w' from by
    have hcg : linkF (nth (ys.take (32 * (q - 1)))) a m k edge 0 = linkF (nth ys) a m k edge 0 := linkF_congr _ _ _ _ _ _ _ fun j hj => nth_take (by omega)
    have := ih k hcl W A B (some pd) c d (q - 1) m edge R S1 (ys.take (32 * (q - 1))) (E1.below hW) (by rw [← hS1]; exact (E2.below hW).take (by omega)) ((hI.below hW).take (by omega)) (fun x hx => hy x (List.mem_of_mem_take hx)) (by omega) (by omega) h1m hside hae (hk.below hW) (hks.below hW)
    rw [hcg, hL1, hL2] at this
    exact this.mono fun e w' ⟨h, hb'⟩ => ⟨h.low (by have := hW.size; omega), hb'⟩)
  have CRT := Lib.hid (fun (W : World) (hW : Below w.heap.size w W) => show Calls Tryd.prog 36 #[.slice (some (B.add k)) (n - k) (d - k)] W fun e w' => e = .returned (sv (rtl S2)) ∧ Below W.heap.size W w' from by
    rw [← hS2]; exact croot_any ((E2.below hW).drop (k := k)) (by omega) (hk.below hW) (hks.below hW))
  obtain ⟨Q1, hQ1⟩ : ∃ x, rtl R ++ L1 = x := ⟨_, rfl⟩
  obtain ⟨T2, hT2⟩ : ∃ x, rtl S1 ++ L2 = x := ⟨_, rfl⟩
  obtain ⟨Q2, hQ2⟩ : ∃ x, rtl S ++ nodeL L2 Z = x := ⟨_, rfl⟩
  obtain ⟨rs, hrs⟩ : ∃ x, rtl S2 = x := ⟨_, rfl⟩
  have Q1l : Q1.length = 64 := by rw [← hQ1, List.length_append, rtl_length, hLl.1]
  have T2l : T2.length = 64 := by rw [← hT2, List.length_append, rtl_length, hLl.2]
  have Q2l : Q2.length = 64 := by rw [← hQ2, List.length_append, rtl_length, nodeL_length]
  have rsl : rs.length = 32 := by rw [← hrs]; exact rtl_length _
  have C3 := Lib.hid (fun (W : World) (hW : Below w.heap.size w W) => show Calls Tryd.prog 67 #[sv T2, sv (rs ++ Z)] W fun e w' => Told g (sv Q2) (rtl S = nodeL L2 Z → rtl S1 = L2) e w' ∧ Below W.heap.size W w' from by
    rw [← hT2, ← hrs]
    exact (cnode_any (w := W) (rtl_length _) hLl.2 (rtl_length _) Zl (rtl_lt _) hLb.2 (rtl_lt _) Zb (hk.below hW) (hks.below hW)).mono fun e w' ⟨h, hb'⟩ => ⟨(h.low (by have := hW.size; omega)).imp (by rw [← hQ2, hcS]) (fun h => by rw [hcS]; exact fun e => (h e).1), hb'⟩)
  have HFIN := Lib.hid (show (rtl R = L1 → rtl S1 = L2 → R = S1.take m) → (rtl S = nodeL L2 Z → rtl S1 = L2) → (rtl R = L1 → rtl S = nodeL L2 Z → R = S.take m) from fun h1 h2 x y => hfin (h1 x (h2 y)))
  rw [hrs] at CRT
  rw [hQ1, hT2] at C1
  have HAR := Lib.hid (And.intro Q1l (And.intro T2l (And.intro Q2l (And.intro rsl Zl))))
  have t2 := fun W => run_takeR (A := some B) (n := n) (c := d) (k := k) (by omega) E2.cap (fun e => by cases e) W
  have t1 := fun W => run_dropR (ad := B) (n := n) (c := d) (k := k) hcl E2.cap W
  have t3 := fun W => run_take_sums (ad := pd) (n := q) (c := r) (k := q - 1) (by omega) hqr W
  have hq0 : (q : Int) - 1 = ((q - 1 : Nat) : Int) := by omega
  have hq2 : ((q - 1 : Nat) : Int) < (q : Int) := by omega
  have hmk : (m : Int) ≤ (k : Int) := by omega
  rw [hg, e1, e2, hQ1, hQ2]
  clear hz e0 hwz hg hk hks E1 E2 b0z hI hy hq ih hdp hlf hfin hcS hS1 hS2 hL1 hL2 hZ hatZ hk0 hQ1 hT2 hQ2 hrs h2n hside hqr hLl hLb e1 e2 hae la ba hcp h2 Q1l T2l Q2l rsl Zl Zb hpb h1m
  go_enter Tryd.func39, Tryd.ntmps39
  go_upto_region 1 with fail
  rw [← HW.out]
  rw [HG.out]
  have hSla1 : Below wz.heap.size wz wz.drew := (Below.refl _ _).drew
  refine wp_region_held_drew (S := fun W => Below wz.heap.size wz W) (by kernel_rfl) (hSla1) (fun _ => ?_)
  change wpAnyH _ _ _ _ _ _ _ _ wz.drew
  generalize wz.drew = Wla2 at hSla1 ⊢
  refine' wpAnyH_take (i := 0) (oi := _) (v := _) ?hila3 (by kernel_rfl) ?hfla3 ?hrla3 ?hQla3 ?hyla3 (hSla1) ?restla3
  case hila3 => (simp only [List.getElem?_toArray, List.getElem?_cons_zero]; rfl)
  case hfla3 => kernel_rfl
  case hrla3 => kernel_rfl
  case hQla3 => exact fun _ _ _ h => h
  case hyla3 => refine Or.inl ⟨by rfl, ?_⟩; intro W hSw; go_simp; try with_reducible rfl
  try simp only [Act.put, List.setIfInBounds_toArray, List.set_cons_zero, List.set_cons_succ]
  refine' wpAnyH_take (i := 1) (oi := _) (v := _) ?hila4 (by kernel_rfl) ?hfla4 ?hrla4 ?hQla4 ?hyla4 (hSla1) ?restla4
  case hila4 => (simp only [List.getElem?_toArray, List.getElem?_cons_zero, List.getElem?_cons_succ]; rfl)
  case hfla4 => kernel_rfl
  case hrla4 => kernel_rfl
  case hQla4 => exact fun _ _ _ h => h
  case hyla4 => refine Or.inl ⟨by rfl, ?_⟩; intro W hSw; have hcc := HC0.out W hSw; go_simp; try with_reducible rfl
  try simp only [Act.put, List.setIfInBounds_toArray, List.set_cons_zero, List.set_cons_succ]
  refine' wpAnyH_take (i := 2) (oi := _) (v := _) ?hila5 (by kernel_rfl) ?hfla5 ?hrla5 ?hQla5 ?hyla5 (hSla1) ?restla5
  case hila5 => (simp only [List.getElem?_toArray, List.getElem?_cons_zero, List.getElem?_cons_succ]; rfl)
  case hfla5 => kernel_rfl
  case hrla5 => kernel_rfl
  case hQla5 => exact fun _ _ _ h => h
  case hyla5 => refine Or.inl ⟨by rfl, ?_⟩; intro W hSw; go_simp; try with_reducible rfl
  try simp only [Act.put, List.setIfInBounds_toArray, List.set_cons_zero, List.set_cons_succ]
  refine' wpAnyH_take (i := 3) (oi := _) (v := _) ?hila6 (by kernel_rfl) ?hfla6 ?hrla6 ?hQla6 ?hyla6 (hSla1) ?restla6
  case hila6 => (simp only [List.getElem?_toArray, List.getElem?_cons_zero, List.getElem?_cons_succ]; rfl)
  case hfla6 => kernel_rfl
  case hrla6 => kernel_rfl
  case hQla6 => exact fun _ _ _ h => h
  case hyla6 => refine Or.inl ⟨by rfl, ?_⟩; intro W hSw; go_simp; try with_reducible rfl
  try simp only [Act.put, List.setIfInBounds_toArray, List.set_cons_zero, List.set_cons_succ]
  refine' wpAnyH_take (i := 4) (oi := _) (v := _) ?hila7 (by kernel_rfl) ?hfla7 ?hrla7 ?hQla7 ?hyla7 (hSla1) ?restla7
  case hila7 => (simp only [List.getElem?_toArray, List.getElem?_cons_zero, List.getElem?_cons_succ]; rfl)
  case hfla7 => kernel_rfl
  case hrla7 => kernel_rfl
  case hQla7 => exact fun _ _ _ h => h
  case hyla7 => refine Or.inl ⟨by rfl, ?_⟩; intro W hSw; have hcc := HC1.out W hSw; go_simp; try with_reducible rfl
  try simp only [Act.put, List.setIfInBounds_toArray, List.set_cons_zero, List.set_cons_succ]
  refine' wpAnyH_take (i := 5) (oi := _) (v := _) ?hila8 (by kernel_rfl) ?hfla8 ?hrla8 ?hQla8 ?hyla8 (hSla1) ?restla8
  case hila8 => (simp only [List.getElem?_toArray, List.getElem?_cons_zero, List.getElem?_cons_succ]; rfl)
  case hfla8 => kernel_rfl
  case hrla8 => kernel_rfl
  case hQla8 => exact fun _ _ _ h => h
  case hyla8 => refine Or.inl ⟨by rfl, ?_⟩; intro W hSw; go_simp; try with_reducible rfl
  try simp only [Act.put, List.setIfInBounds_toArray, List.set_cons_zero, List.set_cons_succ]
  refine' wpAnyH_take (i := 6) (oi := _) (v := _) ?hila9 (by kernel_rfl) ?hfla9 ?hrla9 ?hQla9 ?hyla9 (hSla1) ?restla9
  case hila9 => (simp only [List.getElem?_toArray, List.getElem?_cons_zero, List.getElem?_cons_succ]; rfl)
  case hfla9 => kernel_rfl
  case hrla9 => kernel_rfl
  case hQla9 => exact fun _ _ _ h => h
  case hyla9 => refine Or.inl ⟨by rfl, ?_⟩; intro W hSw; go_simp; try with_reducible rfl
  try simp only [Act.put, List.setIfInBounds_toArray, List.set_cons_zero, List.set_cons_succ]
  refine' wpAnyH_take (i := 7) (oi := _) (v := _) ?hila10 (by kernel_rfl) ?hfla10 ?hrla10 ?hQla10 ?hyla10 (hSla1) ?restla10
  case hila10 => (simp only [List.getElem?_toArray, List.getElem?_cons_zero, List.getElem?_cons_succ]; rfl)
  case hfla10 => kernel_rfl
  case hrla10 => kernel_rfl
  case hQla10 => exact fun _ _ _ h => h
  case hyla10 => refine Or.inl ⟨by rfl, ?_⟩; intro W hSw; go_simp; try with_reducible rfl
  try simp only [Act.put, List.setIfInBounds_toArray, List.set_cons_zero, List.set_cons_succ]
  refine wpAnyH_done (by kernel_rfl) ?_ _
  have B1 := Lib.hid hSla1
  clear hSla1
  go_upto_region 8 with fail
  go_wp2_with fail
  refine (CL.out Wla2).mono ?_
  rintro e w' ⟨rfl, e1⟩
  obtain rfl := e1.symm
  clear e1
  go_upto_region 10 with fail
  have HD0 := Lib.hid (fun (W : World) (hW : But (fun x => x = g + 1 ∨ x = g + 2) Wla2 W) => show W.cell? ⟨g, 0, none⟩ = some (.slice (some A) m c) from but_cell hW (HC0.out _ B1.out) (by show ¬(g = g + 1 ∨ g = g + 2); omega))
  have HD1 := Lib.hid (fun (W : World) (hW : But (fun x => x = g + 1 ∨ x = g + 2) Wla2 W) => show W.cell? ⟨g, 1, none⟩ = some (.slice (some B) n d) from but_cell hW (HC1.out _ B1.out) (by show ¬(g = g + 1 ∨ g = g + 2); omega))
  have hSlb1 : Below Wla2.heap.size Wla2 Wla2.drew := (Below.refl _ _).drew
  have holb3 := (HZ.out.old.below B1.out).below hSlb1
  have hnlb4 := (HZ.out.grown.below B1.out).below hSlb1
  refine wp_region_held_drew (S := fun W => But (fun x => x = g + 1 ∨ x = g + 2) Wla2 W) (by kernel_rfl) (But.of_below hSlb1) (fun _ => ?_)
  change wpAnyH _ _ _ _ _ _ _ _ Wla2.drew
  generalize Wla2.drew = Wlb2 at hSlb1 holb3 hnlb4 ⊢
  refine' wpAnyH_take (i := 0) (oi := _) (v := _) ?hilb5 (by kernel_rfl) ?hflb5 ?hrlb5 ?hQlb5 ?hylb5 (But.of_below hSlb1) ?restlb5
  case hilb5 => (simp only [List.getElem?_toArray, List.getElem?_cons_zero]; rfl)
  case hflb5 => kernel_rfl
  case hrlb5 => kernel_rfl
  case hQlb5 => exact fun _ _ _ h => h
  case hylb5 => refine Or.inl ⟨by rfl, ?_⟩; intro W hSw; go_simp; try with_reducible rfl
  try simp only [Act.put, List.setIfInBounds_toArray, List.set_cons_zero, List.set_cons_succ]
  refine' wpAnyH_take (i := 1) (oi := _) (v := _) ?hilb6 (by kernel_rfl) ?hflb6 ?hrlb6 ?hQlb6 ?hylb6 (But.of_below hSlb1) ?restlb6
  case hilb6 => (simp only [List.getElem?_toArray, List.getElem?_cons_zero, List.getElem?_cons_succ]; rfl)
  case hflb6 => kernel_rfl
  case hrlb6 => kernel_rfl
  case hQlb6 => exact fun _ _ _ h => h
  case hylb6 => refine Or.inl ⟨by rfl, ?_⟩; intro W hSw; have hcc := HD0.out W hSw; go_simp; try with_reducible rfl
  try simp only [Act.put, List.setIfInBounds_toArray, List.set_cons_zero, List.set_cons_succ]
  refine' wpAnyH_take (i := 2) (oi := _) (v := _) ?hilb7 (by kernel_rfl) ?hflb7 ?hrlb7 ?hQlb7 ?hylb7 (But.of_below hSlb1) ?restlb7
  case hilb7 => (simp only [List.getElem?_toArray, List.getElem?_cons_zero, List.getElem?_cons_succ]; rfl)
  case hflb7 => kernel_rfl
  case hrlb7 => kernel_rfl
  case hQlb7 => exact fun _ _ _ h => h
  case hylb7 => refine Or.inl ⟨by rfl, ?_⟩; intro W hSw; go_simp; try with_reducible rfl
  try simp only [Act.put, List.setIfInBounds_toArray, List.set_cons_zero, List.set_cons_succ]
  refine' wpAnyH_take (i := 3) (oi := _) (v := _) ?hilb8 (by kernel_rfl) ?hflb8 ?hrlb8 ?hQlb8 ?hylb8 (But.of_below hSlb1) ?restlb8
  case hilb8 => (simp only [List.getElem?_toArray, List.getElem?_cons_zero, List.getElem?_cons_succ]; rfl)
  case hflb8 => kernel_rfl
  case hrlb8 => kernel_rfl
  case hQlb8 => exact fun _ _ _ h => h
  case hylb8 => refine Or.inl ⟨by rfl, ?_⟩; intro W hSw; have hcc := HD1.out W hSw; go_simp; try with_reducible rfl
  try simp only [Act.put, List.setIfInBounds_toArray, List.set_cons_zero, List.set_cons_succ]
  refine' wpAnyH_take (i := 4) (oi := _) (v := _) ?hilb9 (by kernel_rfl) ?hflb9 ?hrlb9 ?hQlb9 ?hylb9 (But.of_below hSlb1) ?restlb9
  case hilb9 => (simp only [List.getElem?_toArray, List.getElem?_cons_zero, List.getElem?_cons_succ]; rfl)
  case hflb9 => kernel_rfl
  case hrlb9 => kernel_rfl
  case hQlb9 => exact fun _ _ _ h => h
  case hylb9 => refine Or.inl ⟨by rfl, ?_⟩; intro W hSw; go_simp; try with_reducible rfl
  try simp only [Act.put, List.setIfInBounds_toArray, List.set_cons_zero, List.set_cons_succ]
  refine' wpAnyH_take (i := 5) (oi := _) (v := _) ?hilb10 (by kernel_rfl) ?hflb10 ?hrlb10 ?hQlb10 ?hylb10 (But.of_below hSlb1) ?restlb10
  case hilb10 => (simp only [List.getElem?_toArray, List.getElem?_cons_zero, List.getElem?_cons_succ]; rfl)
  case hflb10 => kernel_rfl
  case hrlb10 => kernel_rfl
  case hQlb10 => exact fun _ _ _ h => h
  case hylb10 => refine Or.inl ⟨by rfl, ?_⟩; intro W hSw; go_simp; try with_reducible rfl
  try simp only [Act.put, List.setIfInBounds_toArray, List.set_cons_zero, List.set_cons_succ]
  refine' wpAnyH_take (i := 6) (oi := _) (v := _) ?hilb11 (by kernel_rfl) ?hflb11 ?hrlb11 ?hQlb11 ?hylb11 (But.of_below hSlb1) ?restlb11
  case hilb11 => (simp only [List.getElem?_toArray, List.getElem?_cons_zero, List.getElem?_cons_succ]; rfl)
  case hflb11 => kernel_rfl
  case hrlb11 => kernel_rfl
  case hQlb11 => exact fun _ _ _ h => h
  case hylb11 => refine Or.inl ⟨by rfl, ?_⟩; intro W hSw; go_simp; try with_reducible rfl
  try simp only [Act.put, List.setIfInBounds_toArray, List.set_cons_zero, List.set_cons_succ]
  refine' wpAnyH_take (i := 7) (oi := _) (v := _) ?hilb12 (by kernel_rfl) ?hflb12 ?hrlb12 ?hQlb12 ?hylb12 (But.of_below hSlb1) ?restlb12
  case hilb12 => (simp only [List.getElem?_toArray, List.getElem?_cons_zero, List.getElem?_cons_succ]; rfl)
  case hflb12 => kernel_rfl
  case hrlb12 => kernel_rfl
  case hQlb12 => exact fun _ _ _ h => h
  case hylb12 => refine Or.inl ⟨by rfl, ?_⟩; intro W hSw; go_simp; try with_reducible rfl
  try simp only [Act.put, List.setIfInBounds_toArray, List.set_cons_zero, List.set_cons_succ]
  refine' wpAnyH_take (i := 8) (oi := _) (v := _) ?hilb13 (by kernel_rfl) ?hflb13 ?hrlb13 ?hQlb13 ?hylb13 (But.of_below hSlb1) ?restlb13
  case hilb13 => (simp only [List.getElem?_toArray, List.getElem?_cons_zero, List.getElem?_cons_succ]; rfl)
  case hflb13 => kernel_rfl
  case hrlb13 => kernel_rfl
  case hQlb13 => exact fun _ _ _ h => h
  case hylb13 => refine Or.inl ⟨by rfl, ?_⟩; intro W hSw; go_simp; try with_reducible rfl
  try simp only [Act.put, List.setIfInBounds_toArray, List.set_cons_zero, List.set_cons_succ]
  refine' wpAnyH_take (i := 9) (oi := _) (v := _) ?hilb14 (by kernel_rfl) ?hflb14 ?hrlb14 ?hQlb14 ?hylb14 (But.of_below hSlb1) ?restlb14
  case hilb14 => (simp only [List.getElem?_toArray, List.getElem?_cons_zero, List.getElem?_cons_succ]; rfl)
  case hflb14 => kernel_rfl
  case hrlb14 => kernel_rfl
  case hQlb14 => exact fun _ _ _ h => h
  case hylb14 => refine Or.inl ⟨by rfl, ?_⟩; intro W hSw; go_simp; try with_reducible rfl
  try simp only [Act.put, List.setIfInBounds_toArray, List.set_cons_zero, List.set_cons_succ]
  refine' wpAnyH_take (i := 10) (oi := _) (v := _) ?hilb15 (by kernel_rfl) ?hflb15 ?hrlb15 ?hQlb15 ?hylb15 (But.of_below hSlb1) ?restlb15
  case hilb15 => (simp only [List.getElem?_toArray, List.getElem?_cons_zero, List.getElem?_cons_succ]; rfl)
  case hflb15 => kernel_rfl
  case hrlb15 => kernel_rfl
  case hQlb15 => exact fun _ _ _ h => h
  case hylb15 => refine Or.inl ⟨by rfl, ?_⟩; intro W hSw; go_simp; try with_reducible rfl
  try simp only [Act.put, List.setIfInBounds_toArray, List.set_cons_zero, List.set_cons_succ]
  refine wpAnyH_ready (rs := [11]) (by kernel_rfl) (by simp) ?_
  refine' (AllReadyH.cons (o := _) ?hilb16 (fun K hK => ?_) AllReadyH.nil)
  case hilb16 => (simp only [List.getElem?_toArray, List.getElem?_cons_zero, List.getElem?_cons_succ]; rfl)
  go_simp
  go_at_call 39
  refine (C1.out Wlb2 (below_on B0.out (Nat.le_refl _) (below_on B1.out (Nat.le_refl _) hSlb1))).mono ?_
  rintro e Wlb19 ⟨hTlb20, hblb17⟩
  have hBlb18 := below_on hSlb1 (Nat.le_refl _) hblb17
  rcases hTlb20 with ⟨rfl, hs1⟩ | ⟨u, rfl, hu⟩
  · skip
    have holb21 := holb3.below hblb17
    have hnlb22 := hnlb4.below hblb17
    refine hK.out _ _ (But.of_below hBlb18) (fun _ => ?_)
    clear hK K
    try simp only [Act.put, List.setIfInBounds_toArray, List.set_cons_zero, List.set_cons_succ]
    refine' wpAnyH_take (i := 12) (oi := _) (v := _) ?hilb23 (by kernel_rfl) ?hflb23 ?hrlb23 ?hQlb23 ?hylb23 (But.of_below hBlb18) ?restlb23
    case hilb23 => (simp only [List.getElem?_toArray, List.getElem?_cons_zero, List.getElem?_cons_succ]; rfl)
    case hflb23 => kernel_rfl
    case hrlb23 => kernel_rfl
    case hQlb23 => exact fun _ _ _ h => h
    case hylb23 => refine Or.inl ⟨by rfl, ?_⟩; intro W hSw; go_simp; try with_reducible rfl
    try simp only [Act.put, List.setIfInBounds_toArray, List.set_cons_zero, List.set_cons_succ]
    refine' wpAnyH_take (i := 13) (oi := _) (v := _) ?hilb24 (by kernel_rfl) ?hflb24 ?hrlb24 ?hQlb24 ?hylb24 (But.of_below hBlb18) ?restlb24
    case hilb24 => (simp only [List.getElem?_toArray, List.getElem?_cons_zero, List.getElem?_cons_succ]; rfl)
    case hflb24 => kernel_rfl
    case hrlb24 => kernel_rfl
    case hQlb24 => exact fun _ _ _ h => h
    case hylb24 => refine Or.inl ⟨by rfl, ?_⟩; intro W hSw; go_simp; try with_reducible rfl
    try simp only [Act.put, List.setIfInBounds_toArray, List.set_cons_zero, List.set_cons_succ]
    refine' wpAnyH_take (i := 14) (oi := _) (v := _) ?hilb25 (by kernel_rfl) ?hflb25 ?hrlb25 ?hQlb25 ?hylb25 (But.of_below hBlb18) ?restlb25
    case hilb25 => (simp only [List.getElem?_toArray, List.getElem?_cons_zero, List.getElem?_cons_succ]; rfl)
    case hflb25 => kernel_rfl
    case hrlb25 => kernel_rfl
    case hQlb25 => exact fun _ _ _ h => h
    case hylb25 => refine Or.inl ⟨by rfl, ?_⟩; intro W hSw; go_simp; try with_reducible rfl
    try simp only [Act.put, List.setIfInBounds_toArray, List.set_cons_zero, List.set_cons_succ]
    refine wpAnyH_ready (rs := [15]) (by kernel_rfl) (by simp) ?_
    refine' (AllReadyH.cons (o := _) ?hilb26 (fun K hK => ?_) AllReadyH.nil)
    case hilb26 => (simp only [List.getElem?_toArray, List.getElem?_cons_zero, List.getElem?_cons_succ]; rfl)
    rw [if_pos (by rfl)]
    refine step_store_pairC (.tmp 6) (.tmp 64) rfl (g + 1) rfl zero64 Q1 (by rfl) HAR.out.1 holb21 rfl ?_
    have hBlb27 := but_setRow (S := (fun x => x = g + 1 ∨ x = g + 2)) (But.of_below hBlb18) (.inl rfl) (bvs Q1).toArray
    have holb29 := holb21.setRow Q1
    have hnlb30 := hnlb22.setRow_other (g + 1) (by omega) (bvs Q1).toArray
    refine hK.out _ _ hBlb27 (fun _ => ?_)
    clear hK K
    try simp only [Act.put]
    generalize Wlb19.setRow (g + 1) (bvs Q1).toArray = Wlb28 at hBlb27 holb29 hnlb30 ⊢
    refine wpAnyH_ready (rs := [16]) (by kernel_rfl) (by simp) ?_
    refine' (AllReadyH.cons (o := _) ?hilb31 (fun K hK => ?_) AllReadyH.nil)
    case hilb31 => (simp only [List.getElem?_toArray, List.getElem?_cons_zero, List.getElem?_cons_succ]; rfl)
    rw [if_pos (by rfl)]
    refine step_store_pairC (.tmp 7) (.tmp 65) rfl (g + 2) rfl zero64 T2 (by rfl) HAR.out.2.1 hnlb30 rfl ?_
    have hBlb32 := but_setRow (S := (fun x => x = g + 1 ∨ x = g + 2)) hBlb27 (.inr rfl) (bvs T2).toArray
    have holb34 := holb29.setRow_other (g + 2) (by omega) (bvs T2).toArray
    have hnlb35 := hnlb30.setRow T2
    refine hK.out _ _ hBlb32 (fun _ => ?_)
    clear hK K
    try simp only [Act.put]
    generalize Wlb28.setRow (g + 2) (bvs T2).toArray = Wlb33 at hBlb32 holb34 hnlb35 ⊢
    refine wpAnyH_done (by kernel_rfl) ?_ _
    have HS1 := Lib.hid hs1
    have B2 := Lib.hid hBlb32
    have HO := Lib.hid (And.intro holb34 hnlb35)
    clear hs1 hBlb32 holb34 hnlb35
    go_upto_region 11 with fail
    have HE1 := Lib.hid (fun (W : World) (hW : But (fun x => x = g + 1 ∨ x = g + 2) Wlb33 W) => show W.cell? ⟨g, 1, none⟩ = some (.slice (some B) n d) from HD1.out W (B2.out.trans hW))
    have HAZ2 := Lib.hid (fun (W : World) (hW : But (fun x => x = g + 1 ∨ x = g + 2) Wlb33 W) => show At W (pd.add ((q - 1) * 32)) Z from HAZ.out W ((But.of_below B1.out).trans (B2.out.trans hW)))
    have BW2 := Lib.hid (show Below g w Wlb33 from below_of_but B2.out (below_on HZ.out.below (Nat.le_of_eq HG.out.symm) B1.out) two_ge (by have := HZ.out.size; have := Below.size B1.out; omega))
    have hSlc1 : Below Wlb33.heap.size Wlb33 Wlb33.drew := (Below.refl _ _).drew
    have holc3 := HO.out.1.below hSlc1
    have hnlc4 := HO.out.2.below hSlc1
    refine wp_region_held_drew (S := fun W => But (fun x => x = g + 1 ∨ x = g + 2) Wlb33 W) (by kernel_rfl) (But.of_below hSlc1) (fun _ => ?_)
    change wpAnyH _ _ _ _ _ _ _ _ Wlb33.drew
    generalize Wlb33.drew = Wlc2 at hSlc1 holc3 hnlc4 ⊢
    refine' wpAnyH_take (i := 2) (oi := _) (v := _) ?hilc5 (by kernel_rfl) ?hflc5 ?hrlc5 ?hQlc5 ?hylc5 (But.of_below hSlc1) ?restlc5
    case hilc5 => (simp only [List.getElem?_toArray, List.getElem?_cons_zero, List.getElem?_cons_succ]; rfl)
    case hflc5 => kernel_rfl
    case hrlc5 => kernel_rfl
    case hQlc5 => exact fun _ _ _ h => h
    case hylc5 => refine Or.inl ⟨by rfl, ?_⟩; intro W hSw; go_simp; try with_reducible rfl
    try simp only [Act.put, List.setIfInBounds_toArray, List.set_cons_zero, List.set_cons_succ]
    refine' wpAnyH_take (i := 3) (oi := _) (v := _) ?hilc6 (by kernel_rfl) ?hflc6 ?hrlc6 ?hQlc6 ?hylc6 (But.of_below hSlc1) ?restlc6
    case hilc6 => (simp only [List.getElem?_toArray, List.getElem?_cons_zero, List.getElem?_cons_succ]; rfl)
    case hflc6 => kernel_rfl
    case hrlc6 => kernel_rfl
    case hQlc6 => exact fun _ _ _ h => h
    case hylc6 => refine Or.inl ⟨by rfl, ?_⟩; intro W hSw; have hcc := HE1.out W hSw; go_simp; try with_reducible rfl
    try simp only [Act.put, List.setIfInBounds_toArray, List.set_cons_zero, List.set_cons_succ]
    refine' wpAnyH_take (i := 4) (oi := _) (v := _) ?hilc7 (by kernel_rfl) ?hflc7 ?hrlc7 ?hQlc7 ?hylc7 (But.of_below hSlc1) ?restlc7
    case hilc7 => (simp only [List.getElem?_toArray, List.getElem?_cons_zero, List.getElem?_cons_succ]; rfl)
    case hflc7 => kernel_rfl
    case hrlc7 => kernel_rfl
    case hQlc7 => exact fun _ _ _ h => h
    case hylc7 => refine Or.inl ⟨by rfl, ?_⟩; intro W hSw; go_simp; try with_reducible rfl
    try simp only [Act.put, List.setIfInBounds_toArray, List.set_cons_zero, List.set_cons_succ]
    refine' wpAnyH_take (i := 5) (oi := _) (v := _) ?hilc8 (by kernel_rfl) ?hflc8 ?hrlc8 ?hQlc8 ?hylc8 (But.of_below hSlc1) ?restlc8
    case hilc8 => (simp only [List.getElem?_toArray, List.getElem?_cons_zero, List.getElem?_cons_succ]; rfl)
    case hflc8 => kernel_rfl
    case hrlc8 => kernel_rfl
    case hQlc8 => exact fun _ _ _ h => h
    case hylc8 => refine Or.inl ⟨by rfl, ?_⟩; intro W hSw; go_simp; try with_reducible rfl
    try simp only [Act.put, List.setIfInBounds_toArray, List.set_cons_zero, List.set_cons_succ]
    refine' wpAnyH_take (i := 7) (oi := _) (v := _) ?hilc9 (by kernel_rfl) ?hflc9 ?hrlc9 ?hQlc9 ?hylc9 (But.of_below hSlc1) ?restlc9
    case hilc9 => (simp only [List.getElem?_toArray, List.getElem?_cons_zero, List.getElem?_cons_succ]; rfl)
    case hflc9 => kernel_rfl
    case hrlc9 => kernel_rfl
    case hQlc9 => exact fun _ _ _ h => h
    case hylc9 => refine Or.inl ⟨by rfl, ?_⟩; intro W hSw; go_simp; try with_reducible rfl
    try simp only [Act.put, List.setIfInBounds_toArray, List.set_cons_zero, List.set_cons_succ]
    refine' wpAnyH_take (i := 8) (oi := _) (v := _) ?hilc10 (by kernel_rfl) ?hflc10 ?hrlc10 ?hQlc10 ?hylc10 (But.of_below hSlc1) ?restlc10
    case hilc10 => (simp only [List.getElem?_toArray, List.getElem?_cons_zero, List.getElem?_cons_succ]; rfl)
    case hflc10 => kernel_rfl
    case hrlc10 => kernel_rfl
    case hQlc10 => exact fun _ _ _ h => h
    case hylc10 => refine Or.inl ⟨by rfl, ?_⟩; intro W hSw; go_simp; try with_reducible rfl
    try simp only [Act.put, List.setIfInBounds_toArray, List.set_cons_zero, List.set_cons_succ]
    refine' wpAnyH_take (i := 9) (oi := _) (v := _) ?hilc11 (by kernel_rfl) ?hflc11 ?hrlc11 ?hQlc11 ?hylc11 (But.of_below hSlc1) ?restlc11
    case hilc11 => (simp only [List.getElem?_toArray, List.getElem?_cons_zero, List.getElem?_cons_succ]; rfl)
    case hflc11 => kernel_rfl
    case hrlc11 => kernel_rfl
    case hQlc11 => exact fun _ _ _ h => h
    case hylc11 => refine Or.inl ⟨by rfl, ?_⟩; intro W hSw; go_simp; try with_reducible rfl
    try simp only [Act.put, List.setIfInBounds_toArray, List.set_cons_zero, List.set_cons_succ]
    refine' wpAnyH_take (i := 10) (oi := _) (v := sv Z) ?hilc12 (by kernel_rfl) ?hflc12 ?hrlc12 ?hQlc12 ?hylc12 (But.of_below hSlc1) ?restlc12
    case hilc12 => (simp only [List.getElem?_toArray, List.getElem?_cons_zero, List.getElem?_cons_succ]; rfl)
    case hflc12 => kernel_rfl
    case hrlc12 => kernel_rfl
    case hQlc12 => exact fun _ _ _ h => h
    case hylc12 => refine Or.inl ⟨by rfl, ?_⟩; intro W hSw; exact load_sum_op (.tmp 75) (by rfl) (by rfl) HAR.out.2.2.2.2 (HAZ2.out W hSw)
    try simp only [Act.put, List.setIfInBounds_toArray, List.set_cons_zero, List.set_cons_succ]
    refine wpAnyH_ready (rs := [0, 1, 6]) (by kernel_rfl) (by simp) ?_
    refine' (AllReadyH.cons (o := _) ?hilc13 (fun K hK => ?_) (AllReadyH.cons (o := _) ?hilc14 (fun K hK => ?_) (AllReadyH.cons (o := _) ?hilc15 (fun K hK => ?_) AllReadyH.nil)))
    case hilc13 => (simp only [List.getElem?_toArray, List.getElem?_cons_zero]; rfl)
    case hilc14 => (simp only [List.getElem?_toArray, List.getElem?_cons_zero, List.getElem?_cons_succ]; rfl)
    case hilc15 => (simp only [List.getElem?_toArray, List.getElem?_cons_zero, List.getElem?_cons_succ]; rfl)
    · skip
      rw [if_pos (by rfl)]
      refine step_load_pairC (.tmp 6) (by rfl) (g := g + 1) (by rfl) Q1 HAR.out.1 holc3 ?_
      refine hK.out _ _ (But.of_below hSlc1) (fun _ => ?_)
      clear hK K
      try simp only [Act.put, List.setIfInBounds_toArray, List.set_cons_zero, List.set_cons_succ]
      refine wpAnyH_ready (rs := [1, 6]) (by kernel_rfl) (by simp) ?_
      refine' (AllReadyH.cons (o := _) ?hilc16 (fun K hK => ?_) (AllReadyH.cons (o := _) ?hilc17 (fun K hK => ?_) AllReadyH.nil))
      case hilc16 => (simp only [List.getElem?_toArray, List.getElem?_cons_zero, List.getElem?_cons_succ]; rfl)
      case hilc17 => (simp only [List.getElem?_toArray, List.getElem?_cons_zero, List.getElem?_cons_succ]; rfl)
      · skip
        rw [if_pos (by rfl)]
        refine step_load_pairC (.tmp 7) (by rfl) (g := g + 2) (by rfl) T2 HAR.out.2.1 hnlc4 ?_
        refine hK.out _ _ (But.of_below hSlc1) (fun _ => ?_)
        clear hK K
        try simp only [Act.put, List.setIfInBounds_toArray, List.set_cons_zero, List.set_cons_succ]
        refine wpAnyH_ready (rs := [6]) (by kernel_rfl) (by simp) ?_
        refine' (AllReadyH.cons (o := _) ?hilc18 (fun K hK => ?_) AllReadyH.nil)
        case hilc18 => (simp only [List.getElem?_toArray, List.getElem?_cons_zero, List.getElem?_cons_succ]; rfl)
        go_simp
        go_at_call 36
        refine (CRT.out Wlc2 (by rw [HG.out]; exact below_on BW2.out (Nat.le_of_eq HG.out.symm) hSlc1)).mono ?_
        rintro e Wlc21 ⟨rfl, hblc19⟩
        have hBlc20 := below_on hSlc1 (Nat.le_refl _) hblc19
        have holc22 := holc3.below hblc19
        have hnlc23 := hnlc4.below hblc19
        refine hK.out _ _ (But.of_below hBlc20) (fun _ => ?_)
        clear hK K
        try simp only [Act.put, List.setIfInBounds_toArray, List.set_cons_zero, List.set_cons_succ]
        refine' wpAnyH_take (i := 11) (oi := _) (v := sv (rs ++ Z)) ?hilc24 (by kernel_rfl) ?hflc24 ?hrlc24 ?hQlc24 ?hylc24 (But.of_below hBlc20) ?restlc24
        case hilc24 => (simp only [List.getElem?_toArray, List.getElem?_cons_zero, List.getElem?_cons_succ]; rfl)
        case hflc24 => kernel_rfl
        case hrlc24 => kernel_rfl
        case hQlc24 => exact fun _ _ _ h => h
        case hylc24 => exact yields_build_pairC (by rfl) (.tmp 72) (.tmp 76) (by rfl) rs Z (by rfl) (by rfl) HAR.out.2.2.2.1 HAR.out.2.2.2.2
        try simp only [Act.put, List.setIfInBounds_toArray, List.set_cons_zero, List.set_cons_succ]
        refine wpAnyH_ready (rs := [12]) (by kernel_rfl) (by simp) ?_
        refine' (AllReadyH.cons (o := _) ?hilc25 (fun K hK => ?_) AllReadyH.nil)
        case hilc25 => (simp only [List.getElem?_toArray, List.getElem?_cons_zero, List.getElem?_cons_succ]; rfl)
        go_simp
        go_at_call 67
        refine (C3.out Wlc21 (by rw [HG.out]; exact below_on BW2.out (Nat.le_of_eq HG.out.symm) hBlc20)).mono ?_
        rintro e Wlc28 ⟨hTlc29, hblc26⟩
        have hBlc27 := below_on hBlc20 (Nat.le_refl _) hblc26
        rcases hTlc29 with ⟨rfl, hs3⟩ | ⟨u, rfl, hu⟩
        · skip
          have holc30 := holc22.below hblc26
          have hnlc31 := hnlc23.below hblc26
          refine hK.out _ _ (But.of_below hBlc27) (fun _ => ?_)
          clear hK K
          try simp only [Act.put, List.setIfInBounds_toArray, List.set_cons_zero, List.set_cons_succ]
          refine wpAnyH_ready (rs := [13]) (by kernel_rfl) (by simp) ?_
          refine' (AllReadyH.cons (o := _) ?hilc32 (fun K hK => ?_) AllReadyH.nil)
          case hilc32 => (simp only [List.getElem?_toArray, List.getElem?_cons_zero, List.getElem?_cons_succ]; rfl)
          rw [if_pos (by rfl)]
          refine step_store_pairC (.tmp 6) (.tmp 66) rfl (g + 1) rfl Q1 Q1 HAR.out.1 HAR.out.1 holc30 rfl ?_
          have hBlc33 := but_setRow (S := (fun x => x = g + 1 ∨ x = g + 2)) (But.of_below hBlc27) (.inl rfl) (bvs Q1).toArray
          have holc35 := holc30.setRow Q1
          have hnlc36 := hnlc31.setRow_other (g + 1) (by omega) (bvs Q1).toArray
          refine hK.out _ _ hBlc33 (fun _ => ?_)
          clear hK K
          try simp only [Act.put]
          generalize Wlc28.setRow (g + 1) (bvs Q1).toArray = Wlc34 at hBlc33 holc35 hnlc36 ⊢
          refine wpAnyH_ready (rs := [14]) (by kernel_rfl) (by simp) ?_
          refine' (AllReadyH.cons (o := _) ?hilc37 (fun K hK => ?_) AllReadyH.nil)
          case hilc37 => (simp only [List.getElem?_toArray, List.getElem?_cons_zero, List.getElem?_cons_succ]; rfl)
          rw [if_pos (by rfl)]
          refine step_store_pairC (.tmp 7) (.tmp 78) rfl (g + 2) rfl T2 Q2 HAR.out.2.1 HAR.out.2.2.1 hnlc36 rfl ?_
          have hBlc38 := but_setRow (S := (fun x => x = g + 1 ∨ x = g + 2)) hBlc33 (.inr rfl) (bvs Q2).toArray
          have holc40 := holc35.setRow_other (g + 2) (by omega) (bvs Q2).toArray
          have hnlc41 := hnlc36.setRow Q2
          refine hK.out _ _ hBlc38 (fun _ => ?_)
          clear hK K
          try simp only [Act.put]
          generalize Wlc34.setRow (g + 2) (bvs Q2).toArray = Wlc39 at hBlc38 holc40 hnlc41 ⊢
          refine wpAnyH_done (by kernel_rfl) ?_ _
          go_wp2_with fail
          have hfin : Below g w Wlc39 := below_of_but hBlc38 BW2.out two_ge (by have := HZ.out.size; have := Below.size B1.out; have := B2.out.size; omega)
          refine bodyPost_ret_by (results_cell_cell (p := 6) (q := 7) (ty := 63) (ty2 := 63) (by kernel_rfl) _ _ ⟨g + 1, 0, none⟩ ⟨g + 2, 0, none⟩ (sv Q1) (sv Q2) rfl rfl (run_load_pairC _ _ _ HAR.out.1 holc40.at_) (run_load_pairC _ _ _ HAR.out.2.2.1 hnlc41.at_)) rfl ?_
          exact ⟨.inl ⟨rfl, HFIN.out HS1.out hs3⟩, hfin⟩
        · skip
          go_wp2
          exact ⟨rfl, .inr ⟨u, rfl, hu⟩, by rw [← HG.out]; exact (by rw [HG.out]; exact below_on BW2.out (Nat.le_of_eq HG.out.symm) hBlc27)⟩
      · skip
        go_simp
        go_at_call 36
        refine (CRT.out Wlc2 (by rw [HG.out]; exact below_on BW2.out (Nat.le_of_eq HG.out.symm) hSlc1)).mono ?_
        rintro e Wlc44 ⟨rfl, hblc42⟩
        have hBlc43 := below_on hSlc1 (Nat.le_refl _) hblc42
        have holc45 := holc3.below hblc42
        have hnlc46 := hnlc4.below hblc42
        refine hK.out _ _ (But.of_below hBlc43) (fun _ => ?_)
        clear hK K
        try simp only [Act.put, List.setIfInBounds_toArray, List.set_cons_zero, List.set_cons_succ]
        refine' wpAnyH_take (i := 11) (oi := _) (v := sv (rs ++ Z)) ?hilc47 (by kernel_rfl) ?hflc47 ?hrlc47 ?hQlc47 ?hylc47 (But.of_below hBlc43) ?restlc47
        case hilc47 => (simp only [List.getElem?_toArray, List.getElem?_cons_zero, List.getElem?_cons_succ]; rfl)
        case hflc47 => kernel_rfl
        case hrlc47 => kernel_rfl
        case hQlc47 => exact fun _ _ _ h => h
        case hylc47 => exact yields_build_pairC (by rfl) (.tmp 72) (.tmp 76) (by rfl) rs Z (by rfl) (by rfl) HAR.out.2.2.2.1 HAR.out.2.2.2.2
        try simp only [Act.put, List.setIfInBounds_toArray, List.set_cons_zero, List.set_cons_succ]
        refine wpAnyH_ready (rs := [1]) (by kernel_rfl) (by simp) ?_
        refine' (AllReadyH.cons (o := _) ?hilc48 (fun K hK => ?_) AllReadyH.nil)
        case hilc48 => (simp only [List.getElem?_toArray, List.getElem?_cons_zero, List.getElem?_cons_succ]; rfl)
        rw [if_pos (by rfl)]
        refine step_load_pairC (.tmp 7) (by rfl) (g := g + 2) (by rfl) T2 HAR.out.2.1 hnlc46 ?_
        refine hK.out _ _ (But.of_below hBlc43) (fun _ => ?_)
        clear hK K
        try simp only [Act.put, List.setIfInBounds_toArray, List.set_cons_zero, List.set_cons_succ]
        refine wpAnyH_ready (rs := [12]) (by kernel_rfl) (by simp) ?_
        refine' (AllReadyH.cons (o := _) ?hilc49 (fun K hK => ?_) AllReadyH.nil)
        case hilc49 => (simp only [List.getElem?_toArray, List.getElem?_cons_zero, List.getElem?_cons_succ]; rfl)
        go_simp
        go_at_call 67
        refine (C3.out Wlc44 (by rw [HG.out]; exact below_on BW2.out (Nat.le_of_eq HG.out.symm) hBlc43)).mono ?_
        rintro e Wlc52 ⟨hTlc53, hblc50⟩
        have hBlc51 := below_on hBlc43 (Nat.le_refl _) hblc50
        rcases hTlc53 with ⟨rfl, hs3⟩ | ⟨u, rfl, hu⟩
        · skip
          have holc54 := holc45.below hblc50
          have hnlc55 := hnlc46.below hblc50
          refine hK.out _ _ (But.of_below hBlc51) (fun _ => ?_)
          clear hK K
          try simp only [Act.put, List.setIfInBounds_toArray, List.set_cons_zero, List.set_cons_succ]
          refine wpAnyH_ready (rs := [13]) (by kernel_rfl) (by simp) ?_
          refine' (AllReadyH.cons (o := _) ?hilc56 (fun K hK => ?_) AllReadyH.nil)
          case hilc56 => (simp only [List.getElem?_toArray, List.getElem?_cons_zero, List.getElem?_cons_succ]; rfl)
          rw [if_pos (by rfl)]
          refine step_store_pairC (.tmp 6) (.tmp 66) rfl (g + 1) rfl Q1 Q1 HAR.out.1 HAR.out.1 holc54 rfl ?_
          have hBlc57 := but_setRow (S := (fun x => x = g + 1 ∨ x = g + 2)) (But.of_below hBlc51) (.inl rfl) (bvs Q1).toArray
          have holc59 := holc54.setRow Q1
          have hnlc60 := hnlc55.setRow_other (g + 1) (by omega) (bvs Q1).toArray
          refine hK.out _ _ hBlc57 (fun _ => ?_)
          clear hK K
          try simp only [Act.put]
          generalize Wlc52.setRow (g + 1) (bvs Q1).toArray = Wlc58 at hBlc57 holc59 hnlc60 ⊢
          refine wpAnyH_ready (rs := [14]) (by kernel_rfl) (by simp) ?_
          refine' (AllReadyH.cons (o := _) ?hilc61 (fun K hK => ?_) AllReadyH.nil)
          case hilc61 => (simp only [List.getElem?_toArray, List.getElem?_cons_zero, List.getElem?_cons_succ]; rfl)
          rw [if_pos (by rfl)]
          refine step_store_pairC (.tmp 7) (.tmp 78) rfl (g + 2) rfl T2 Q2 HAR.out.2.1 HAR.out.2.2.1 hnlc60 rfl ?_
          have hBlc62 := but_setRow (S := (fun x => x = g + 1 ∨ x = g + 2)) hBlc57 (.inr rfl) (bvs Q2).toArray
          have holc64 := holc59.setRow_other (g + 2) (by omega) (bvs Q2).toArray
          have hnlc65 := hnlc60.setRow Q2
          refine hK.out _ _ hBlc62 (fun _ => ?_)
          clear hK K
          try simp only [Act.put]
          generalize Wlc58.setRow (g + 2) (bvs Q2).toArray = Wlc63 at hBlc62 holc64 hnlc65 ⊢
          refine wpAnyH_done (by kernel_rfl) ?_ _
          go_wp2_with fail
          have hfin : Below g w Wlc63 := below_of_but hBlc62 BW2.out two_ge (by have := HZ.out.size; have := Below.size B1.out; have := B2.out.size; omega)
          refine bodyPost_ret_by (results_cell_cell (p := 6) (q := 7) (ty := 63) (ty2 := 63) (by kernel_rfl) _ _ ⟨g + 1, 0, none⟩ ⟨g + 2, 0, none⟩ (sv Q1) (sv Q2) rfl rfl (run_load_pairC _ _ _ HAR.out.1 holc64.at_) (run_load_pairC _ _ _ HAR.out.2.2.1 hnlc65.at_)) rfl ?_
          exact ⟨.inl ⟨rfl, HFIN.out HS1.out hs3⟩, hfin⟩
        · skip
          go_wp2
          exact ⟨rfl, .inr ⟨u, rfl, hu⟩, by rw [← HG.out]; exact (by rw [HG.out]; exact below_on BW2.out (Nat.le_of_eq HG.out.symm) hBlc51)⟩
    · skip
      rw [if_pos (by rfl)]
      refine step_load_pairC (.tmp 7) (by rfl) (g := g + 2) (by rfl) T2 HAR.out.2.1 hnlc4 ?_
      refine hK.out _ _ (But.of_below hSlc1) (fun _ => ?_)
      clear hK K
      try simp only [Act.put, List.setIfInBounds_toArray, List.set_cons_zero, List.set_cons_succ]
      refine wpAnyH_ready (rs := [0, 6]) (by kernel_rfl) (by simp) ?_
      refine' (AllReadyH.cons (o := _) ?hilc66 (fun K hK => ?_) (AllReadyH.cons (o := _) ?hilc67 (fun K hK => ?_) AllReadyH.nil))
      case hilc66 => (simp only [List.getElem?_toArray, List.getElem?_cons_zero]; rfl)
      case hilc67 => (simp only [List.getElem?_toArray, List.getElem?_cons_zero, List.getElem?_cons_succ]; rfl)
      · skip
        rw [if_pos (by rfl)]
        refine step_load_pairC (.tmp 6) (by rfl) (g := g + 1) (by rfl) Q1 HAR.out.1 holc3 ?_
        refine hK.out _ _ (But.of_below hSlc1) (fun _ => ?_)
        clear hK K
        try simp only [Act.put, List.setIfInBounds_toArray, List.set_cons_zero, List.set_cons_succ]
        refine wpAnyH_ready (rs := [6]) (by kernel_rfl) (by simp) ?_
        refine' (AllReadyH.cons (o := _) ?hilc68 (fun K hK => ?_) AllReadyH.nil)
        case hilc68 => (simp only [List.getElem?_toArray, List.getElem?_cons_zero, List.getElem?_cons_succ]; rfl)
        go_simp
        go_at_call 36
        refine (CRT.out Wlc2 (by rw [HG.out]; exact below_on BW2.out (Nat.le_of_eq HG.out.symm) hSlc1)).mono ?_
        rintro e Wlc71 ⟨rfl, hblc69⟩
        have hBlc70 := below_on hSlc1 (Nat.le_refl _) hblc69
        have holc72 := holc3.below hblc69
        have hnlc73 := hnlc4.below hblc69
        refine hK.out _ _ (But.of_below hBlc70) (fun _ => ?_)
        clear hK K
        try simp only [Act.put, List.setIfInBounds_toArray, List.set_cons_zero, List.set_cons_succ]
        refine' wpAnyH_take (i := 11) (oi := _) (v := sv (rs ++ Z)) ?hilc74 (by kernel_rfl) ?hflc74 ?hrlc74 ?hQlc74 ?hylc74 (But.of_below hBlc70) ?restlc74
        case hilc74 => (simp only [List.getElem?_toArray, List.getElem?_cons_zero, List.getElem?_cons_succ]; rfl)
        case hflc74 => kernel_rfl
        case hrlc74 => kernel_rfl
        case hQlc74 => exact fun _ _ _ h => h
        case hylc74 => exact yields_build_pairC (by rfl) (.tmp 72) (.tmp 76) (by rfl) rs Z (by rfl) (by rfl) HAR.out.2.2.2.1 HAR.out.2.2.2.2
        try simp only [Act.put, List.setIfInBounds_toArray, List.set_cons_zero, List.set_cons_succ]
        refine wpAnyH_ready (rs := [12]) (by kernel_rfl) (by simp) ?_
        refine' (AllReadyH.cons (o := _) ?hilc75 (fun K hK => ?_) AllReadyH.nil)
        case hilc75 => (simp only [List.getElem?_toArray, List.getElem?_cons_zero, List.getElem?_cons_succ]; rfl)
        go_simp
        go_at_call 67
        refine (C3.out Wlc71 (by rw [HG.out]; exact below_on BW2.out (Nat.le_of_eq HG.out.symm) hBlc70)).mono ?_
        rintro e Wlc78 ⟨hTlc79, hblc76⟩
        have hBlc77 := below_on hBlc70 (Nat.le_refl _) hblc76
        rcases hTlc79 with ⟨rfl, hs3⟩ | ⟨u, rfl, hu⟩
        · skip
          have holc80 := holc72.below hblc76
          have hnlc81 := hnlc73.below hblc76
          refine hK.out _ _ (But.of_below hBlc77) (fun _ => ?_)
          clear hK K
          try simp only [Act.put, List.setIfInBounds_toArray, List.set_cons_zero, List.set_cons_succ]
          refine wpAnyH_ready (rs := [13]) (by kernel_rfl) (by simp) ?_
          refine' (AllReadyH.cons (o := _) ?hilc82 (fun K hK => ?_) AllReadyH.nil)
          case hilc82 => (simp only [List.getElem?_toArray, List.getElem?_cons_zero, List.getElem?_cons_succ]; rfl)
          rw [if_pos (by rfl)]
          refine step_store_pairC (.tmp 6) (.tmp 66) rfl (g + 1) rfl Q1 Q1 HAR.out.1 HAR.out.1 holc80 rfl ?_
          have hBlc83 := but_setRow (S := (fun x => x = g + 1 ∨ x = g + 2)) (But.of_below hBlc77) (.inl rfl) (bvs Q1).toArray
          have holc85 := holc80.setRow Q1
          have hnlc86 := hnlc81.setRow_other (g + 1) (by omega) (bvs Q1).toArray
          refine hK.out _ _ hBlc83 (fun _ => ?_)
          clear hK K
          try simp only [Act.put]
          generalize Wlc78.setRow (g + 1) (bvs Q1).toArray = Wlc84 at hBlc83 holc85 hnlc86 ⊢
          refine wpAnyH_ready (rs := [14]) (by kernel_rfl) (by simp) ?_
          refine' (AllReadyH.cons (o := _) ?hilc87 (fun K hK => ?_) AllReadyH.nil)
          case hilc87 => (simp only [List.getElem?_toArray, List.getElem?_cons_zero, List.getElem?_cons_succ]; rfl)
          rw [if_pos (by rfl)]
          refine step_store_pairC (.tmp 7) (.tmp 78) rfl (g + 2) rfl T2 Q2 HAR.out.2.1 HAR.out.2.2.1 hnlc86 rfl ?_
          have hBlc88 := but_setRow (S := (fun x => x = g + 1 ∨ x = g + 2)) hBlc83 (.inr rfl) (bvs Q2).toArray
          have holc90 := holc85.setRow_other (g + 2) (by omega) (bvs Q2).toArray
          have hnlc91 := hnlc86.setRow Q2
          refine hK.out _ _ hBlc88 (fun _ => ?_)
          clear hK K
          try simp only [Act.put]
          generalize Wlc84.setRow (g + 2) (bvs Q2).toArray = Wlc89 at hBlc88 holc90 hnlc91 ⊢
          refine wpAnyH_done (by kernel_rfl) ?_ _
          go_wp2_with fail
          have hfin : Below g w Wlc89 := below_of_but hBlc88 BW2.out two_ge (by have := HZ.out.size; have := Below.size B1.out; have := B2.out.size; omega)
          refine bodyPost_ret_by (results_cell_cell (p := 6) (q := 7) (ty := 63) (ty2 := 63) (by kernel_rfl) _ _ ⟨g + 1, 0, none⟩ ⟨g + 2, 0, none⟩ (sv Q1) (sv Q2) rfl rfl (run_load_pairC _ _ _ HAR.out.1 holc90.at_) (run_load_pairC _ _ _ HAR.out.2.2.1 hnlc91.at_)) rfl ?_
          exact ⟨.inl ⟨rfl, HFIN.out HS1.out hs3⟩, hfin⟩
        · skip
          go_wp2
          exact ⟨rfl, .inr ⟨u, rfl, hu⟩, by rw [← HG.out]; exact (by rw [HG.out]; exact below_on BW2.out (Nat.le_of_eq HG.out.symm) hBlc77)⟩
      · skip
        go_simp
        go_at_call 36
        refine (CRT.out Wlc2 (by rw [HG.out]; exact below_on BW2.out (Nat.le_of_eq HG.out.symm) hSlc1)).mono ?_
        rintro e Wlc94 ⟨rfl, hblc92⟩
        have hBlc93 := below_on hSlc1 (Nat.le_refl _) hblc92
        have holc95 := holc3.below hblc92
        have hnlc96 := hnlc4.below hblc92
        refine hK.out _ _ (But.of_below hBlc93) (fun _ => ?_)
        clear hK K
        try simp only [Act.put, List.setIfInBounds_toArray, List.set_cons_zero, List.set_cons_succ]
        refine' wpAnyH_take (i := 11) (oi := _) (v := sv (rs ++ Z)) ?hilc97 (by kernel_rfl) ?hflc97 ?hrlc97 ?hQlc97 ?hylc97 (But.of_below hBlc93) ?restlc97
        case hilc97 => (simp only [List.getElem?_toArray, List.getElem?_cons_zero, List.getElem?_cons_succ]; rfl)
        case hflc97 => kernel_rfl
        case hrlc97 => kernel_rfl
        case hQlc97 => exact fun _ _ _ h => h
        case hylc97 => exact yields_build_pairC (by rfl) (.tmp 72) (.tmp 76) (by rfl) rs Z (by rfl) (by rfl) HAR.out.2.2.2.1 HAR.out.2.2.2.2
        try simp only [Act.put, List.setIfInBounds_toArray, List.set_cons_zero, List.set_cons_succ]
        refine wpAnyH_ready (rs := [0, 12]) (by kernel_rfl) (by simp) ?_
        refine' (AllReadyH.cons (o := _) ?hilc98 (fun K hK => ?_) (AllReadyH.cons (o := _) ?hilc99 (fun K hK => ?_) AllReadyH.nil))
        case hilc98 => (simp only [List.getElem?_toArray, List.getElem?_cons_zero]; rfl)
        case hilc99 => (simp only [List.getElem?_toArray, List.getElem?_cons_zero, List.getElem?_cons_succ]; rfl)
        · skip
          rw [if_pos (by rfl)]
          refine step_load_pairC (.tmp 6) (by rfl) (g := g + 1) (by rfl) Q1 HAR.out.1 holc95 ?_
          refine hK.out _ _ (But.of_below hBlc93) (fun _ => ?_)
          clear hK K
          try simp only [Act.put, List.setIfInBounds_toArray, List.set_cons_zero, List.set_cons_succ]
          refine wpAnyH_ready (rs := [12]) (by kernel_rfl) (by simp) ?_
          refine' (AllReadyH.cons (o := _) ?hilc100 (fun K hK => ?_) AllReadyH.nil)
          case hilc100 => (simp only [List.getElem?_toArray, List.getElem?_cons_zero, List.getElem?_cons_succ]; rfl)
          go_simp
          go_at_call 67
          refine (C3.out Wlc94 (by rw [HG.out]; exact below_on BW2.out (Nat.le_of_eq HG.out.symm) hBlc93)).mono ?_
          rintro e Wlc103 ⟨hTlc104, hblc101⟩
          have hBlc102 := below_on hBlc93 (Nat.le_refl _) hblc101
          rcases hTlc104 with ⟨rfl, hs3⟩ | ⟨u, rfl, hu⟩
          · skip
            have holc105 := holc95.below hblc101
            have hnlc106 := hnlc96.below hblc101
            refine hK.out _ _ (But.of_below hBlc102) (fun _ => ?_)
            clear hK K
            try simp only [Act.put, List.setIfInBounds_toArray, List.set_cons_zero, List.set_cons_succ]
            refine wpAnyH_ready (rs := [13]) (by kernel_rfl) (by simp) ?_
            refine' (AllReadyH.cons (o := _) ?hilc107 (fun K hK => ?_) AllReadyH.nil)
            case hilc107 => (simp only [List.getElem?_toArray, List.getElem?_cons_zero, List.getElem?_cons_succ]; rfl)
            rw [if_pos (by rfl)]
            refine step_store_pairC (.tmp 6) (.tmp 66) rfl (g + 1) rfl Q1 Q1 HAR.out.1 HAR.out.1 holc105 rfl ?_
            have hBlc108 := but_setRow (S := (fun x => x = g + 1 ∨ x = g + 2)) (But.of_below hBlc102) (.inl rfl) (bvs Q1).toArray
            have holc110 := holc105.setRow Q1
            have hnlc111 := hnlc106.setRow_other (g + 1) (by omega) (bvs Q1).toArray
            refine hK.out _ _ hBlc108 (fun _ => ?_)
            clear hK K
            try simp only [Act.put]
            generalize Wlc103.setRow (g + 1) (bvs Q1).toArray = Wlc109 at hBlc108 holc110 hnlc111 ⊢
            refine wpAnyH_ready (rs := [14]) (by kernel_rfl) (by simp) ?_
            refine' (AllReadyH.cons (o := _) ?hilc112 (fun K hK => ?_) AllReadyH.nil)
            case hilc112 => (simp only [List.getElem?_toArray, List.getElem?_cons_zero, List.getElem?_cons_succ]; rfl)
            rw [if_pos (by rfl)]
            refine step_store_pairC (.tmp 7) (.tmp 78) rfl (g + 2) rfl T2 Q2 HAR.out.2.1 HAR.out.2.2.1 hnlc111 rfl ?_
            have hBlc113 := but_setRow (S := (fun x => x = g + 1 ∨ x = g + 2)) hBlc108 (.inr rfl) (bvs Q2).toArray
            have holc115 := holc110.setRow_other (g + 2) (by omega) (bvs Q2).toArray
            have hnlc116 := hnlc111.setRow Q2
            refine hK.out _ _ hBlc113 (fun _ => ?_)
            clear hK K
            try simp only [Act.put]
            generalize Wlc109.setRow (g + 2) (bvs Q2).toArray = Wlc114 at hBlc113 holc115 hnlc116 ⊢
            refine wpAnyH_done (by kernel_rfl) ?_ _
            go_wp2_with fail
            have hfin : Below g w Wlc114 := below_of_but hBlc113 BW2.out two_ge (by have := HZ.out.size; have := Below.size B1.out; have := B2.out.size; omega)
            refine bodyPost_ret_by (results_cell_cell (p := 6) (q := 7) (ty := 63) (ty2 := 63) (by kernel_rfl) _ _ ⟨g + 1, 0, none⟩ ⟨g + 2, 0, none⟩ (sv Q1) (sv Q2) rfl rfl (run_load_pairC _ _ _ HAR.out.1 holc115.at_) (run_load_pairC _ _ _ HAR.out.2.2.1 hnlc116.at_)) rfl ?_
            exact ⟨.inl ⟨rfl, HFIN.out HS1.out hs3⟩, hfin⟩
          · skip
            go_wp2
            exact ⟨rfl, .inr ⟨u, rfl, hu⟩, by rw [← HG.out]; exact (by rw [HG.out]; exact below_on BW2.out (Nat.le_of_eq HG.out.symm) hBlc102)⟩
        · skip
          go_simp
          go_at_call 67
          refine (C3.out Wlc94 (by rw [HG.out]; exact below_on BW2.out (Nat.le_of_eq HG.out.symm) hBlc93)).mono ?_
          rintro e Wlc119 ⟨hTlc120, hblc117⟩
          have hBlc118 := below_on hBlc93 (Nat.le_refl _) hblc117
          rcases hTlc120 with ⟨rfl, hs3⟩ | ⟨u, rfl, hu⟩
          · skip
            have holc121 := holc95.below hblc117
            have hnlc122 := hnlc96.below hblc117
            refine hK.out _ _ (But.of_below hBlc118) (fun _ => ?_)
            clear hK K
            try simp only [Act.put, List.setIfInBounds_toArray, List.set_cons_zero, List.set_cons_succ]
            refine wpAnyH_ready (rs := [0]) (by kernel_rfl) (by simp) ?_
            refine' (AllReadyH.cons (o := _) ?hilc123 (fun K hK => ?_) AllReadyH.nil)
            case hilc123 => (simp only [List.getElem?_toArray, List.getElem?_cons_zero]; rfl)
            rw [if_pos (by rfl)]
            refine step_load_pairC (.tmp 6) (by rfl) (g := g + 1) (by rfl) Q1 HAR.out.1 holc121 ?_
            refine hK.out _ _ (But.of_below hBlc118) (fun _ => ?_)
            clear hK K
            try simp only [Act.put, List.setIfInBounds_toArray, List.set_cons_zero, List.set_cons_succ]
            refine wpAnyH_ready (rs := [13]) (by kernel_rfl) (by simp) ?_
            refine' (AllReadyH.cons (o := _) ?hilc124 (fun K hK => ?_) AllReadyH.nil)
            case hilc124 => (simp only [List.getElem?_toArray, List.getElem?_cons_zero, List.getElem?_cons_succ]; rfl)
            rw [if_pos (by rfl)]
            refine step_store_pairC (.tmp 6) (.tmp 66) rfl (g + 1) rfl Q1 Q1 HAR.out.1 HAR.out.1 holc121 rfl ?_
            have hBlc125 := but_setRow (S := (fun x => x = g + 1 ∨ x = g + 2)) (But.of_below hBlc118) (.inl rfl) (bvs Q1).toArray
            have holc127 := holc121.setRow Q1
            have hnlc128 := hnlc122.setRow_other (g + 1) (by omega) (bvs Q1).toArray
            refine hK.out _ _ hBlc125 (fun _ => ?_)
            clear hK K
            try simp only [Act.put]
            generalize Wlc119.setRow (g + 1) (bvs Q1).toArray = Wlc126 at hBlc125 holc127 hnlc128 ⊢
            refine wpAnyH_ready (rs := [14]) (by kernel_rfl) (by simp) ?_
            refine' (AllReadyH.cons (o := _) ?hilc129 (fun K hK => ?_) AllReadyH.nil)
            case hilc129 => (simp only [List.getElem?_toArray, List.getElem?_cons_zero, List.getElem?_cons_succ]; rfl)
            rw [if_pos (by rfl)]
            refine step_store_pairC (.tmp 7) (.tmp 78) rfl (g + 2) rfl T2 Q2 HAR.out.2.1 HAR.out.2.2.1 hnlc128 rfl ?_
            have hBlc130 := but_setRow (S := (fun x => x = g + 1 ∨ x = g + 2)) hBlc125 (.inr rfl) (bvs Q2).toArray
            have holc132 := holc127.setRow_other (g + 2) (by omega) (bvs Q2).toArray
            have hnlc133 := hnlc128.setRow Q2
            refine hK.out _ _ hBlc130 (fun _ => ?_)
            clear hK K
            try simp only [Act.put]
            generalize Wlc126.setRow (g + 2) (bvs Q2).toArray = Wlc131 at hBlc130 holc132 hnlc133 ⊢
            refine wpAnyH_done (by kernel_rfl) ?_ _
            go_wp2_with fail
            have hfin : Below g w Wlc131 := below_of_but hBlc130 BW2.out two_ge (by have := HZ.out.size; have := Below.size B1.out; have := B2.out.size; omega)
            refine bodyPost_ret_by (results_cell_cell (p := 6) (q := 7) (ty := 63) (ty2 := 63) (by kernel_rfl) _ _ ⟨g + 1, 0, none⟩ ⟨g + 2, 0, none⟩ (sv Q1) (sv Q2) rfl rfl (run_load_pairC _ _ _ HAR.out.1 holc132.at_) (run_load_pairC _ _ _ HAR.out.2.2.1 hnlc133.at_)) rfl ?_
            exact ⟨.inl ⟨rfl, HFIN.out HS1.out hs3⟩, hfin⟩
          · skip
            go_wp2
            exact ⟨rfl, .inr ⟨u, rfl, hu⟩, by rw [← HG.out]; exact (by rw [HG.out]; exact below_on BW2.out (Nat.le_of_eq HG.out.symm) hBlc118)⟩
    · skip
      go_simp
      go_at_call 36
      refine (CRT.out Wlc2 (by rw [HG.out]; exact below_on BW2.out (Nat.le_of_eq HG.out.symm) hSlc1)).mono ?_
      rintro e Wlc136 ⟨rfl, hblc134⟩
      have hBlc135 := below_on hSlc1 (Nat.le_refl _) hblc134
      have holc137 := holc3.below hblc134
      have hnlc138 := hnlc4.below hblc134
      refine hK.out _ _ (But.of_below hBlc135) (fun _ => ?_)
      clear hK K
      try simp only [Act.put, List.setIfInBounds_toArray, List.set_cons_zero, List.set_cons_succ]
      refine' wpAnyH_take (i := 11) (oi := _) (v := sv (rs ++ Z)) ?hilc139 (by kernel_rfl) ?hflc139 ?hrlc139 ?hQlc139 ?hylc139 (But.of_below hBlc135) ?restlc139
      case hilc139 => (simp only [List.getElem?_toArray, List.getElem?_cons_zero, List.getElem?_cons_succ]; rfl)
      case hflc139 => kernel_rfl
      case hrlc139 => kernel_rfl
      case hQlc139 => exact fun _ _ _ h => h
      case hylc139 => exact yields_build_pairC (by rfl) (.tmp 72) (.tmp 76) (by rfl) rs Z (by rfl) (by rfl) HAR.out.2.2.2.1 HAR.out.2.2.2.2
      try simp only [Act.put, List.setIfInBounds_toArray, List.set_cons_zero, List.set_cons_succ]
      refine wpAnyH_ready (rs := [0, 1]) (by kernel_rfl) (by simp) ?_
      refine' (AllReadyH.cons (o := _) ?hilc140 (fun K hK => ?_) (AllReadyH.cons (o := _) ?hilc141 (fun K hK => ?_) AllReadyH.nil))
      case hilc140 => (simp only [List.getElem?_toArray, List.getElem?_cons_zero]; rfl)
      case hilc141 => (simp only [List.getElem?_toArray, List.getElem?_cons_zero, List.getElem?_cons_succ]; rfl)
      · skip
        rw [if_pos (by rfl)]
        refine step_load_pairC (.tmp 6) (by rfl) (g := g + 1) (by rfl) Q1 HAR.out.1 holc137 ?_
        refine hK.out _ _ (But.of_below hBlc135) (fun _ => ?_)
        clear hK K
        try simp only [Act.put, List.setIfInBounds_toArray, List.set_cons_zero, List.set_cons_succ]
        refine wpAnyH_ready (rs := [1]) (by kernel_rfl) (by simp) ?_
        refine' (AllReadyH.cons (o := _) ?hilc142 (fun K hK => ?_) AllReadyH.nil)
        case hilc142 => (simp only [List.getElem?_toArray, List.getElem?_cons_zero, List.getElem?_cons_succ]; rfl)
        rw [if_pos (by rfl)]
        refine step_load_pairC (.tmp 7) (by rfl) (g := g + 2) (by rfl) T2 HAR.out.2.1 hnlc138 ?_
        refine hK.out _ _ (But.of_below hBlc135) (fun _ => ?_)
        clear hK K
        try simp only [Act.put, List.setIfInBounds_toArray, List.set_cons_zero, List.set_cons_succ]
        refine wpAnyH_ready (rs := [12]) (by kernel_rfl) (by simp) ?_
        refine' (AllReadyH.cons (o := _) ?hilc143 (fun K hK => ?_) AllReadyH.nil)
        case hilc143 => (simp only [List.getElem?_toArray, List.getElem?_cons_zero, List.getElem?_cons_succ]; rfl)
        go_simp
        go_at_call 67
        refine (C3.out Wlc136 (by rw [HG.out]; exact below_on BW2.out (Nat.le_of_eq HG.out.symm) hBlc135)).mono ?_
        rintro e Wlc146 ⟨hTlc147, hblc144⟩
        have hBlc145 := below_on hBlc135 (Nat.le_refl _) hblc144
        rcases hTlc147 with ⟨rfl, hs3⟩ | ⟨u, rfl, hu⟩
        · skip
          have holc148 := holc137.below hblc144
          have hnlc149 := hnlc138.below hblc144
          refine hK.out _ _ (But.of_below hBlc145) (fun _ => ?_)
          clear hK K
          try simp only [Act.put, List.setIfInBounds_toArray, List.set_cons_zero, List.set_cons_succ]
          refine wpAnyH_ready (rs := [13]) (by kernel_rfl) (by simp) ?_
          refine' (AllReadyH.cons (o := _) ?hilc150 (fun K hK => ?_) AllReadyH.nil)
          case hilc150 => (simp only [List.getElem?_toArray, List.getElem?_cons_zero, List.getElem?_cons_succ]; rfl)
          rw [if_pos (by rfl)]
          refine step_store_pairC (.tmp 6) (.tmp 66) rfl (g + 1) rfl Q1 Q1 HAR.out.1 HAR.out.1 holc148 rfl ?_
          have hBlc151 := but_setRow (S := (fun x => x = g + 1 ∨ x = g + 2)) (But.of_below hBlc145) (.inl rfl) (bvs Q1).toArray
          have holc153 := holc148.setRow Q1
          have hnlc154 := hnlc149.setRow_other (g + 1) (by omega) (bvs Q1).toArray
          refine hK.out _ _ hBlc151 (fun _ => ?_)
          clear hK K
          try simp only [Act.put]
          generalize Wlc146.setRow (g + 1) (bvs Q1).toArray = Wlc152 at hBlc151 holc153 hnlc154 ⊢
          refine wpAnyH_ready (rs := [14]) (by kernel_rfl) (by simp) ?_
          refine' (AllReadyH.cons (o := _) ?hilc155 (fun K hK => ?_) AllReadyH.nil)
          case hilc155 => (simp only [List.getElem?_toArray, List.getElem?_cons_zero, List.getElem?_cons_succ]; rfl)
          rw [if_pos (by rfl)]
          refine step_store_pairC (.tmp 7) (.tmp 78) rfl (g + 2) rfl T2 Q2 HAR.out.2.1 HAR.out.2.2.1 hnlc154 rfl ?_
          have hBlc156 := but_setRow (S := (fun x => x = g + 1 ∨ x = g + 2)) hBlc151 (.inr rfl) (bvs Q2).toArray
          have holc158 := holc153.setRow_other (g + 2) (by omega) (bvs Q2).toArray
          have hnlc159 := hnlc154.setRow Q2
          refine hK.out _ _ hBlc156 (fun _ => ?_)
          clear hK K
          try simp only [Act.put]
          generalize Wlc152.setRow (g + 2) (bvs Q2).toArray = Wlc157 at hBlc156 holc158 hnlc159 ⊢
          refine wpAnyH_done (by kernel_rfl) ?_ _
          go_wp2_with fail
          have hfin : Below g w Wlc157 := below_of_but hBlc156 BW2.out two_ge (by have := HZ.out.size; have := Below.size B1.out; have := B2.out.size; omega)
          refine bodyPost_ret_by (results_cell_cell (p := 6) (q := 7) (ty := 63) (ty2 := 63) (by kernel_rfl) _ _ ⟨g + 1, 0, none⟩ ⟨g + 2, 0, none⟩ (sv Q1) (sv Q2) rfl rfl (run_load_pairC _ _ _ HAR.out.1 holc158.at_) (run_load_pairC _ _ _ HAR.out.2.2.1 hnlc159.at_)) rfl ?_
          exact ⟨.inl ⟨rfl, HFIN.out HS1.out hs3⟩, hfin⟩
        · skip
          go_wp2
          exact ⟨rfl, .inr ⟨u, rfl, hu⟩, by rw [← HG.out]; exact (by rw [HG.out]; exact below_on BW2.out (Nat.le_of_eq HG.out.symm) hBlc145)⟩
      · skip
        rw [if_pos (by rfl)]
        refine step_load_pairC (.tmp 7) (by rfl) (g := g + 2) (by rfl) T2 HAR.out.2.1 hnlc138 ?_
        refine hK.out _ _ (But.of_below hBlc135) (fun _ => ?_)
        clear hK K
        try simp only [Act.put, List.setIfInBounds_toArray, List.set_cons_zero, List.set_cons_succ]
        refine wpAnyH_ready (rs := [0, 12]) (by kernel_rfl) (by simp) ?_
        refine' (AllReadyH.cons (o := _) ?hilc160 (fun K hK => ?_) (AllReadyH.cons (o := _) ?hilc161 (fun K hK => ?_) AllReadyH.nil))
        case hilc160 => (simp only [List.getElem?_toArray, List.getElem?_cons_zero]; rfl)
        case hilc161 => (simp only [List.getElem?_toArray, List.getElem?_cons_zero, List.getElem?_cons_succ]; rfl)
        · skip
          rw [if_pos (by rfl)]
          refine step_load_pairC (.tmp 6) (by rfl) (g := g + 1) (by rfl) Q1 HAR.out.1 holc137 ?_
          refine hK.out _ _ (But.of_below hBlc135) (fun _ => ?_)
          clear hK K
          try simp only [Act.put, List.setIfInBounds_toArray, List.set_cons_zero, List.set_cons_succ]
          refine wpAnyH_ready (rs := [12]) (by kernel_rfl) (by simp) ?_
          refine' (AllReadyH.cons (o := _) ?hilc162 (fun K hK => ?_) AllReadyH.nil)
          case hilc162 => (simp only [List.getElem?_toArray, List.getElem?_cons_zero, List.getElem?_cons_succ]; rfl)
          go_simp
          go_at_call 67
          refine (C3.out Wlc136 (by rw [HG.out]; exact below_on BW2.out (Nat.le_of_eq HG.out.symm) hBlc135)).mono ?_
          rintro e Wlc165 ⟨hTlc166, hblc163⟩
          have hBlc164 := below_on hBlc135 (Nat.le_refl _) hblc163
          rcases hTlc166 with ⟨rfl, hs3⟩ | ⟨u, rfl, hu⟩
          · skip
            have holc167 := holc137.below hblc163
            have hnlc168 := hnlc138.below hblc163
            refine hK.out _ _ (But.of_below hBlc164) (fun _ => ?_)
            clear hK K
            try simp only [Act.put, List.setIfInBounds_toArray, List.set_cons_zero, List.set_cons_succ]
            refine wpAnyH_ready (rs := [13]) (by kernel_rfl) (by simp) ?_
            refine' (AllReadyH.cons (o := _) ?hilc169 (fun K hK => ?_) AllReadyH.nil)
            case hilc169 => (simp only [List.getElem?_toArray, List.getElem?_cons_zero, List.getElem?_cons_succ]; rfl)
            rw [if_pos (by rfl)]
            refine step_store_pairC (.tmp 6) (.tmp 66) rfl (g + 1) rfl Q1 Q1 HAR.out.1 HAR.out.1 holc167 rfl ?_
            have hBlc170 := but_setRow (S := (fun x => x = g + 1 ∨ x = g + 2)) (But.of_below hBlc164) (.inl rfl) (bvs Q1).toArray
            have holc172 := holc167.setRow Q1
            have hnlc173 := hnlc168.setRow_other (g + 1) (by omega) (bvs Q1).toArray
            refine hK.out _ _ hBlc170 (fun _ => ?_)
            clear hK K
            try simp only [Act.put]
            generalize Wlc165.setRow (g + 1) (bvs Q1).toArray = Wlc171 at hBlc170 holc172 hnlc173 ⊢
            refine wpAnyH_ready (rs := [14]) (by kernel_rfl) (by simp) ?_
            refine' (AllReadyH.cons (o := _) ?hilc174 (fun K hK => ?_) AllReadyH.nil)
            case hilc174 => (simp only [List.getElem?_toArray, List.getElem?_cons_zero, List.getElem?_cons_succ]; rfl)
            rw [if_pos (by rfl)]
            refine step_store_pairC (.tmp 7) (.tmp 78) rfl (g + 2) rfl T2 Q2 HAR.out.2.1 HAR.out.2.2.1 hnlc173 rfl ?_
            have hBlc175 := but_setRow (S := (fun x => x = g + 1 ∨ x = g + 2)) hBlc170 (.inr rfl) (bvs Q2).toArray
            have holc177 := holc172.setRow_other (g + 2) (by omega) (bvs Q2).toArray
            have hnlc178 := hnlc173.setRow Q2
            refine hK.out _ _ hBlc175 (fun _ => ?_)
            clear hK K
            try simp only [Act.put]
            generalize Wlc171.setRow (g + 2) (bvs Q2).toArray = Wlc176 at hBlc175 holc177 hnlc178 ⊢
            refine wpAnyH_done (by kernel_rfl) ?_ _
            go_wp2_with fail
            have hfin : Below g w Wlc176 := below_of_but hBlc175 BW2.out two_ge (by have := HZ.out.size; have := Below.size B1.out; have := B2.out.size; omega)
            refine bodyPost_ret_by (results_cell_cell (p := 6) (q := 7) (ty := 63) (ty2 := 63) (by kernel_rfl) _ _ ⟨g + 1, 0, none⟩ ⟨g + 2, 0, none⟩ (sv Q1) (sv Q2) rfl rfl (run_load_pairC _ _ _ HAR.out.1 holc177.at_) (run_load_pairC _ _ _ HAR.out.2.2.1 hnlc178.at_)) rfl ?_
            exact ⟨.inl ⟨rfl, HFIN.out HS1.out hs3⟩, hfin⟩
          · skip
            go_wp2
            exact ⟨rfl, .inr ⟨u, rfl, hu⟩, by rw [← HG.out]; exact (by rw [HG.out]; exact below_on BW2.out (Nat.le_of_eq HG.out.symm) hBlc164)⟩
        · skip
          go_simp
          go_at_call 67
          refine (C3.out Wlc136 (by rw [HG.out]; exact below_on BW2.out (Nat.le_of_eq HG.out.symm) hBlc135)).mono ?_
          rintro e Wlc181 ⟨hTlc182, hblc179⟩
          have hBlc180 := below_on hBlc135 (Nat.le_refl _) hblc179
          rcases hTlc182 with ⟨rfl, hs3⟩ | ⟨u, rfl, hu⟩
          · skip
            have holc183 := holc137.below hblc179
            have hnlc184 := hnlc138.below hblc179
            refine hK.out _ _ (But.of_below hBlc180) (fun _ => ?_)
            clear hK K
            try simp only [Act.put, List.setIfInBounds_toArray, List.set_cons_zero, List.set_cons_succ]
            refine wpAnyH_ready (rs := [0]) (by kernel_rfl) (by simp) ?_
            refine' (AllReadyH.cons (o := _) ?hilc185 (fun K hK => ?_) AllReadyH.nil)
            case hilc185 => (simp only [List.getElem?_toArray, List.getElem?_cons_zero]; rfl)
            rw [if_pos (by rfl)]
            refine step_load_pairC (.tmp 6) (by rfl) (g := g + 1) (by rfl) Q1 HAR.out.1 holc183 ?_
            refine hK.out _ _ (But.of_below hBlc180) (fun _ => ?_)
            clear hK K
            try simp only [Act.put, List.setIfInBounds_toArray, List.set_cons_zero, List.set_cons_succ]
            refine wpAnyH_ready (rs := [13]) (by kernel_rfl) (by simp) ?_
            refine' (AllReadyH.cons (o := _) ?hilc186 (fun K hK => ?_) AllReadyH.nil)
            case hilc186 => (simp only [List.getElem?_toArray, List.getElem?_cons_zero, List.getElem?_cons_succ]; rfl)
            rw [if_pos (by rfl)]
            refine step_store_pairC (.tmp 6) (.tmp 66) rfl (g + 1) rfl Q1 Q1 HAR.out.1 HAR.out.1 holc183 rfl ?_
            have hBlc187 := but_setRow (S := (fun x => x = g + 1 ∨ x = g + 2)) (But.of_below hBlc180) (.inl rfl) (bvs Q1).toArray
            have holc189 := holc183.setRow Q1
            have hnlc190 := hnlc184.setRow_other (g + 1) (by omega) (bvs Q1).toArray
            refine hK.out _ _ hBlc187 (fun _ => ?_)
            clear hK K
            try simp only [Act.put]
            generalize Wlc181.setRow (g + 1) (bvs Q1).toArray = Wlc188 at hBlc187 holc189 hnlc190 ⊢
            refine wpAnyH_ready (rs := [14]) (by kernel_rfl) (by simp) ?_
            refine' (AllReadyH.cons (o := _) ?hilc191 (fun K hK => ?_) AllReadyH.nil)
            case hilc191 => (simp only [List.getElem?_toArray, List.getElem?_cons_zero, List.getElem?_cons_succ]; rfl)
            rw [if_pos (by rfl)]
            refine step_store_pairC (.tmp 7) (.tmp 78) rfl (g + 2) rfl T2 Q2 HAR.out.2.1 HAR.out.2.2.1 hnlc190 rfl ?_
            have hBlc192 := but_setRow (S := (fun x => x = g + 1 ∨ x = g + 2)) hBlc187 (.inr rfl) (bvs Q2).toArray
            have holc194 := holc189.setRow_other (g + 2) (by omega) (bvs Q2).toArray
            have hnlc195 := hnlc190.setRow Q2
            refine hK.out _ _ hBlc192 (fun _ => ?_)
            clear hK K
            try simp only [Act.put]
            generalize Wlc188.setRow (g + 2) (bvs Q2).toArray = Wlc193 at hBlc192 holc194 hnlc195 ⊢
            refine wpAnyH_done (by kernel_rfl) ?_ _
            go_wp2_with fail
            have hfin : Below g w Wlc193 := below_of_but hBlc192 BW2.out two_ge (by have := HZ.out.size; have := Below.size B1.out; have := B2.out.size; omega)
            refine bodyPost_ret_by (results_cell_cell (p := 6) (q := 7) (ty := 63) (ty2 := 63) (by kernel_rfl) _ _ ⟨g + 1, 0, none⟩ ⟨g + 2, 0, none⟩ (sv Q1) (sv Q2) rfl rfl (run_load_pairC _ _ _ HAR.out.1 holc194.at_) (run_load_pairC _ _ _ HAR.out.2.2.1 hnlc195.at_)) rfl ?_
            exact ⟨.inl ⟨rfl, HFIN.out HS1.out hs3⟩, hfin⟩
          · skip
            go_wp2
            exact ⟨rfl, .inr ⟨u, rfl, hu⟩, by rw [← HG.out]; exact (by rw [HG.out]; exact below_on BW2.out (Nat.le_of_eq HG.out.symm) hBlc180)⟩
  · skip
    go_wp2
    exact ⟨rfl, .inr ⟨u, rfl, hu⟩, by rw [← HG.out]; exact (below_on B0.out (Nat.le_refl _) (below_on B1.out (Nat.le_refl _) hBlb18))⟩

set_option maxRecDepth 100000 in
set_option maxHeartbeats 16000000 in
theorem dlink_high (E1 : Ent w (some A) m c R) (E2 : Ent w (some B) n d S) (hI : InS w P q ys) (hy : ∀ x ∈ ys, x < 256) (hqr : q ≤ r) (hq : q = ldep m n edge) (_ : 1 ≤ m) (hmn' : m ≤ n) (hn6 : n ≤ 60000) (la : a.length = 32) (ba : ∀ x ∈ a, x < 256) (_ : edge = true → a = rtl R) (hk : Knows w) (hks : Starts w) (h2n : ¬(n < 2 ∨ m = n)) (hside : ¬ m ≤ cutN n)
    (ih : ∀ k, k < n → ∀ (w : World) (A B : Addr) (P : Option Addr) (c d q m : Nat) (edge : Bool) (R S : List (List Nat)) (ys : List Nat), Ent w (some A) m c R → Ent w (some B) k d S → InS w P q ys → (∀ x ∈ ys, x < 256) → q ≤ r → q = ldep m k edge → 1 ≤ m → m ≤ k → (edge = true → a = rtl R) → Knows w → Starts w →
      Calls Tryd.prog 39 #[.agg #[.slice (some A) m c, .slice (some B) k d], .slice P q r, .bool edge] w fun e w' => Told w.heap.size (.tuple #[sv (rtl R ++ (linkF (nth ys) a m k edge 0).1), sv (rtl S ++ (linkF (nth ys) a m k edge 0).2)]) (rtl R = (linkF (nth ys) a m k edge 0).1 → rtl S = (linkF (nth ys) a m k edge 0).2 → R = S.take m) e w' ∧ Below w.heap.size w w') :
    Calls Tryd.prog 39 #[.agg #[.slice (some A) m c, .slice (some B) n d], .slice P q r, .bool edge] w fun e w' => Told w.heap.size (.tuple #[sv (rtl R ++ (linkF (nth ys) a m n edge 0).1), sv (rtl S ++ (linkF (nth ys) a m n edge 0).2)]) (rtl R = (linkF (nth ys) a m n edge 0).1 → rtl S = (linkF (nth ys) a m n edge 0).2 → R = S.take m) e w' ∧ Below w.heap.size w w' := by
  obtain ⟨g, hg⟩ : ∃ g, w.heap.size = g := ⟨_, rfl⟩
  have hz := DLIn.mk_ w g (.slice (some A) m c) (.slice (some B) n d) hg
  have e0 : (bvs zero64).toArray = #[.int .u8 0, .int .u8 0, .int .u8 0, .int .u8 0, .int .u8 0, .int .u8 0, .int .u8 0, .int .u8 0, .int .u8 0, .int .u8 0, .int .u8 0, .int .u8 0, .int .u8 0, .int .u8 0, .int .u8 0, .int .u8 0, .int .u8 0, .int .u8 0, .int .u8 0, .int .u8 0, .int .u8 0, .int .u8 0, .int .u8 0, .int .u8 0, .int .u8 0, .int .u8 0, .int .u8 0, .int .u8 0, .int .u8 0, .int .u8 0, .int .u8 0, .int .u8 0, .int .u8 0, .int .u8 0, .int .u8 0, .int .u8 0, .int .u8 0, .int .u8 0, .int .u8 0, .int .u8 0, .int .u8 0, .int .u8 0, .int .u8 0, .int .u8 0, .int .u8 0, .int .u8 0, .int .u8 0, .int .u8 0, .int .u8 0, .int .u8 0, .int .u8 0, .int .u8 0, .int .u8 0, .int .u8 0, .int .u8 0, .int .u8 0, .int .u8 0, .int .u8 0, .int .u8 0, .int .u8 0, .int .u8 0, .int .u8 0, .int .u8 0, .int .u8 0] := rfl
  rw [e0] at hz
  obtain ⟨wz, hwz⟩ : ∃ x, x = ((w.alloc (.cells #[.slice (some A) m c, .slice (some B) n d] 66)).alloc (.cells #[.int .u8 0, .int .u8 0, .int .u8 0, .int .u8 0, .int .u8 0, .int .u8 0, .int .u8 0, .int .u8 0, .int .u8 0, .int .u8 0, .int .u8 0, .int .u8 0, .int .u8 0, .int .u8 0, .int .u8 0, .int .u8 0, .int .u8 0, .int .u8 0, .int .u8 0, .int .u8 0, .int .u8 0, .int .u8 0, .int .u8 0, .int .u8 0, .int .u8 0, .int .u8 0, .int .u8 0, .int .u8 0, .int .u8 0, .int .u8 0, .int .u8 0, .int .u8 0, .int .u8 0, .int .u8 0, .int .u8 0, .int .u8 0, .int .u8 0, .int .u8 0, .int .u8 0, .int .u8 0, .int .u8 0, .int .u8 0, .int .u8 0, .int .u8 0, .int .u8 0, .int .u8 0, .int .u8 0, .int .u8 0, .int .u8 0, .int .u8 0, .int .u8 0, .int .u8 0, .int .u8 0, .int .u8 0, .int .u8 0, .int .u8 0, .int .u8 0, .int .u8 0, .int .u8 0, .int .u8 0, .int .u8 0, .int .u8 0, .int .u8 0, .int .u8 0] 63)).alloc (.cells #[.int .u8 0, .int .u8 0, .int .u8 0, .int .u8 0, .int .u8 0, .int .u8 0, .int .u8 0, .int .u8 0, .int .u8 0, .int .u8 0, .int .u8 0, .int .u8 0, .int .u8 0, .int .u8 0, .int .u8 0, .int .u8 0, .int .u8 0, .int .u8 0, .int .u8 0, .int .u8 0, .int .u8 0, .int .u8 0, .int .u8 0, .int .u8 0, .int .u8 0, .int .u8 0, .int .u8 0, .int .u8 0, .int .u8 0, .int .u8 0, .int .u8 0, .int .u8 0, .int .u8 0, .int .u8 0, .int .u8 0, .int .u8 0, .int .u8 0, .int .u8 0, .int .u8 0, .int .u8 0, .int .u8 0, .int .u8 0, .int .u8 0, .int .u8 0, .int .u8 0, .int .u8 0, .int .u8 0, .int .u8 0, .int .u8 0, .int .u8 0, .int .u8 0, .int .u8 0, .int .u8 0, .int .u8 0, .int .u8 0, .int .u8 0, .int .u8 0, .int .u8 0, .int .u8 0, .int .u8 0, .int .u8 0, .int .u8 0, .int .u8 0, .int .u8 0] 63) := ⟨_, rfl⟩
  rw [← hwz] at hz
  have HW := Lib.hid hwz
  have HG := Lib.hid hg
  have HZ := Lib.hid hz
  have b0z : Below w.heap.size w wz := by rw [hg]; exact hz.below
  have B0 := Lib.hid b0z
  have HC0 := Lib.hid (fun (W : World) (hW : Below wz.heap.size wz W) => show W.cell? ⟨g, 0, none⟩ = some (.slice (some A) m c) from (hz.both.below hW).cell 0 rfl)
  have HC1 := Lib.hid (fun (W : World) (hW : Below wz.heap.size wz W) => show W.cell? ⟨g, 1, none⟩ = some (.slice (some B) n d) from (hz.both.below hW).cell 1 rfl)
  have hdp := hq.trans (ldep_high h2n hside edge)
  have hlf := linkF_high (nth ys) a h2n hside edge 0
  have hcR := rtl_cut E1.len (show 2 ≤ m by have := cutN_pos n; omega)
  rw [cutN_mid (by omega) hmn'] at hcR
  have h2 : 2 ≤ n := by omega
  have hcl := cutN_lt h2
  have hcp := cutN_pos n
  have hcS := rtl_cut E2.len h2
  have hmn : ((m : Int) == (n : Int)) = false := by simp; omega
  obtain ⟨k, hk0⟩ : ∃ k, cutN n = k := ⟨_, rfl⟩
  have CL := Lib.hid (fun (W : World) => show Calls Tryd.prog 66 #[.int .i64 (n : Int)] W fun e w' => e = .returned (.int .i64 (k : Int)) ∧ w' = W from (cleft_any n W h2 (by omega)).mono fun e w' ⟨h1, h2⟩ => ⟨by rw [h1, hk0], h2⟩)
  have hq1 : 1 ≤ q := by omega
  have hqb : q ≤ 65 := by rw [hq]; exact ldep_64 (by omega) _ _
  obtain ⟨pd, rfl⟩ := hI.some_ (by omega)
  obtain ⟨Z, hZ⟩ : ∃ Z, nth ys (q - 1) = Z := ⟨_, rfl⟩
  have Zl : Z.length = 32 := by rw [← hZ]; exact nth_length hI.len (by omega)
  have Zb : ∀ x ∈ Z, x < 256 := by rw [← hZ]; exact nth_lt hy _
  obtain ⟨pd', epd, _, hatZ⟩ := hI.at_ (k := q - 1) (by omega)
  cases epd
  rw [hZ] at hatZ
  obtain ⟨S1, hS1⟩ : ∃ x, S.take k = x := ⟨_, rfl⟩
  obtain ⟨S2, hS2⟩ : ∃ x, S.drop k = x := ⟨_, rfl⟩
  have hpb : pd.block < g := by
    have := hatZ 0 (Z.getD 0 0) (by rw [List.getD_eq_getElem?_getD, List.getElem?_eq_getElem (by omega)]; rfl)
    have h1 := World.block_lt_of_cell? w _ this
    rw [block_add, block_add, hg] at h1
    exact h1
  have HAZ := Lib.hid (fun (W : World) (hW : But (fun x => x = g + 1 ∨ x = g + 2) wz W) => show At W (pd.add ((q - 1) * 32)) Z from but_at hW ((hatZ.below b0z)) (by intro e; rw [block_add] at e; omega))
  rw [hk0] at hcl hcp hcS hdp hlf hside hcR
  rw [hS1, hS2] at hcS
  obtain ⟨R1, hR1⟩ : ∃ x, R.take k = x := ⟨_, rfl⟩
  obtain ⟨R2, hR2⟩ : ∃ x, R.drop k = x := ⟨_, rfl⟩
  rw [hR1, hR2] at hcR
  obtain ⟨L1, hL1⟩ : ∃ L, (linkF (nth ys) a (m - k) (n - k) false 0).1 = L := ⟨_, rfl⟩
  obtain ⟨L2, hL2⟩ : ∃ L, (linkF (nth ys) a (m - k) (n - k) false 0).2 = L := ⟨_, rfl⟩
  have hLl := linkF_of (P := fun l => l.length = 32) sha_length (nth ys) a la (n - k) (m - k) false 0 (fun j hj => nth_length hI.len (by omega))
  have hLb := linkF_of (P := fun l => ∀ x ∈ l, x < 256) sha_lt (nth ys) a ba (n - k) (m - k) false 0 (fun j _ => nth_lt hy _)
  rw [hL1, hL2] at hLl hLb
  have e1 : (linkF (nth ys) a m n edge 0).1 = nodeL Z L1 := by rw [hlf, hL1, Nat.zero_add, show ldep (m - k) (n - k) false = q - 1 by omega, hZ]
  have e2 : (linkF (nth ys) a m n edge 0).2 = nodeL Z L2 := by rw [hlf, hL2, Nat.zero_add, show ldep (m - k) (n - k) false = q - 1 by omega, hZ]
  have hjoin : S.take k ++ (S.drop k).take (m - k) = S.take m := by rw [← List.take_add, show k + (m - k) = m by omega]
  have CP := Lib.hid (fun (W : World) => parted_any (w := W) (A := A) (B := B) (n := m) (c := c) (m := n) (d := d) (k := k) (by omega) hcl E1.cap E2.cap)
  have CD := Lib.hid (fun (W : World) (hW : Below w.heap.size w W) => show Calls Tryd.prog 59 #[.agg #[.slice (some A) k c, .slice (some B) k d]] W fun e w' => Told g (sv (rtl R1 ++ rtl S1)) (rtl R1 = rtl S1 → R1 = S1) e w' ∧ Below W.heap.size W w' from by
    rw [← hR1, ← hS1]
    exact (down_any k W A B c d _ _ ((E1.below hW).take (by omega)) ((E2.below hW).take (by omega)) (hk.below hW) (hks.below hW) (by omega) (by omega)).mono fun e w' ⟨h, hb'⟩ => ⟨h.low (by have := hW.size; omega), hb'⟩)
  have C1 := Lib.hid (fun (W : World) (hW : Below w.heap.size w W) => show Calls Tryd.prog 39 #[.agg #[.slice (some (A.add k)) (m - k) (c - k), .slice (some (B.add k)) (n - k) (d - k)], .slice (some pd) (q - 1) r, .bool false] W fun e w' => Told g (.tuple #[sv (rtl R2 ++ L1), sv (rtl S2 ++ L2)]) (rtl R2 = L1 → rtl S2 = L2 → R2 = S2.take (m - k)) e w' ∧ Below W.heap.size W w' from by
    have hcg : linkF (nth (ys.take (32 * (q - 1)))) a (m - k) (n - k) false 0 = linkF (nth ys) a (m - k) (n - k) false 0 := linkF_congr _ _ _ _ _ _ _ fun j hj => nth_take (by omega)
    have := ih (n - k) (by omega) W (A.add k) (B.add k) (some pd) (c - k) (d - k) (q - 1) (m - k) false R2 S2 (ys.take (32 * (q - 1))) (by rw [← hR2]; exact (E1.below hW).drop) (by rw [← hS2]; exact (E2.below hW).drop) ((hI.below hW).take (by omega)) (fun x hx => hy x (List.mem_of_mem_take hx)) (by omega) (by omega) (by omega) (by omega) (fun e => by cases e) (hk.below hW) (hks.below hW)
    rw [hcg, hL1, hL2] at this
    exact this.mono fun e w' ⟨h, hb'⟩ => ⟨h.low (by have := hW.size; omega), hb'⟩)
  obtain ⟨r1, hr1⟩ : ∃ x, rtl R1 = x := ⟨_, rfl⟩
  obtain ⟨s1, hs1'⟩ : ∃ x, rtl S1 = x := ⟨_, rfl⟩
  obtain ⟨T1, hT1⟩ : ∃ x, rtl R2 ++ L1 = x := ⟨_, rfl⟩
  obtain ⟨T2, hT2⟩ : ∃ x, rtl S2 ++ L2 = x := ⟨_, rfl⟩
  obtain ⟨Q1, hQ1⟩ : ∃ x, rtl R ++ nodeL Z L1 = x := ⟨_, rfl⟩
  obtain ⟨Q2, hQ2⟩ : ∃ x, rtl S ++ nodeL Z L2 = x := ⟨_, rfl⟩
  have r1l : r1.length = 32 := by rw [← hr1]; exact rtl_length _
  have s1l : s1.length = 32 := by rw [← hs1']; exact rtl_length _
  have T1l : T1.length = 64 := by rw [← hT1, List.length_append, rtl_length, hLl.1]
  have T2l : T2.length = 64 := by rw [← hT2, List.length_append, rtl_length, hLl.2]
  have Q1l : Q1.length = 64 := by rw [← hQ1, List.length_append, rtl_length, nodeL_length]
  have Q2l : Q2.length = 64 := by rw [← hQ2, List.length_append, rtl_length, nodeL_length]
  have C3 := Lib.hid (fun (W : World) (hW : Below w.heap.size w W) => show Calls Tryd.prog 67 #[sv (r1 ++ Z), sv T1] W fun e w' => Told g (sv Q1) (rtl R = nodeL Z L1 → rtl R1 = Z ∧ rtl R2 = L1) e w' ∧ Below W.heap.size W w' from by
    rw [← hT1, ← hr1]
    exact (cnode_any (w := W) (rtl_length _) Zl (rtl_length _) hLl.1 (rtl_lt _) Zb (rtl_lt _) hLb.1 (hk.below hW) (hks.below hW)).mono fun e w' ⟨h, hb'⟩ => ⟨(h.low (by have := hW.size; omega)).imp (by rw [← hQ1, hcR]) (fun h => by rw [hcR]; exact h), hb'⟩)
  have C4 := Lib.hid (fun (W : World) (hW : Below w.heap.size w W) => show Calls Tryd.prog 67 #[sv (s1 ++ Z), sv T2] W fun e w' => Told g (sv Q2) (rtl S = nodeL Z L2 → rtl S1 = Z ∧ rtl S2 = L2) e w' ∧ Below W.heap.size W w' from by
    rw [← hT2, ← hs1']
    exact (cnode_any (w := W) (rtl_length _) Zl (rtl_length _) hLl.2 (rtl_lt _) Zb (rtl_lt _) hLb.2 (hk.below hW) (hks.below hW)).mono fun e w' ⟨h, hb'⟩ => ⟨(h.low (by have := hW.size; omega)).imp (by rw [← hQ2, hcS]) (fun h => by rw [hcS]; exact h), hb'⟩)
  have HFIN := Lib.hid (show (rtl R1 = rtl S1 → R1 = S1) → (rtl R2 = L1 → rtl S2 = L2 → R2 = S2.take (m - k)) → (rtl R = nodeL Z L1 → rtl R1 = Z ∧ rtl R2 = L1) → (rtl S = nodeL Z L2 → rtl S1 = Z ∧ rtl S2 = L2) → (rtl R = nodeL Z L1 → rtl S = nodeL Z L2 → R = S.take m) from fun h0 h1 h3 h4 x y => by
    obtain ⟨p1, p2⟩ := h3 x
    obtain ⟨p3, p4⟩ := h4 y
    rw [← List.take_append_drop k R, hR1, hR2, h0 (p1.trans p3.symm), h1 p2 p4, ← hS1, ← hS2]
    exact hjoin)
  rw [hr1, hs1'] at CD
  rw [hT1, hT2] at C1
  have HAR := Lib.hid (And.intro Q1l (And.intro Q2l (And.intro T1l (And.intro T2l (And.intro r1l (And.intro s1l Zl))))))
  have P1l : (r1 ++ s1).length = 64 := by rw [List.length_append, r1l, s1l]
  obtain ⟨P1, hP1⟩ : ∃ x, r1 ++ s1 = x := ⟨_, rfl⟩
  rw [hP1] at CD P1l
  have HP1 := Lib.hid (And.intro hP1 P1l)
  have HRS := Lib.hid (And.intro hr1 hs1')
  rw [hr1, hs1'] at HFIN
  rw [hr1] at C3
  rw [hs1'] at C4
  have t3 := fun W => run_take_sums (ad := pd) (n := q) (c := r) (k := q - 1) (by omega) hqr W
  have hq0 : (q : Int) - 1 = ((q - 1 : Nat) : Int) := by omega
  have hq2 : ((q - 1 : Nat) : Int) < (q : Int) := by omega
  have hmk : ¬ (m : Int) ≤ (k : Int) := by omega
  rw [hg, e1, e2, hQ1, hQ2]
  clear hz e0 hwz hg hk hks E1 E2 b0z hI hy hq ih hdp hlf hcS hcR hS1 hS2 hR1 hR2 hL1 hL2 hZ hatZ hk0 hQ1 hQ2 hT1 hT2 hr1 hs1' hP1 h2n hside hqr hLl hLb e1 e2 la ba hcp h2 Q1l Q2l T1l T2l r1l s1l Zl Zb hpb hjoin P1l hmn' hcl
  go_enter Tryd.func39, Tryd.ntmps39
  go_upto_region 1 with fail
  rw [← HW.out]
  rw [HG.out]
  have hSha1 : Below wz.heap.size wz wz.drew := (Below.refl _ _).drew
  refine wp_region_held_drew (S := fun W => Below wz.heap.size wz W) (by kernel_rfl) (hSha1) (fun _ => ?_)
  change wpAnyH _ _ _ _ _ _ _ _ wz.drew
  generalize wz.drew = Wha2 at hSha1 ⊢
  refine' wpAnyH_take (i := 0) (oi := _) (v := _) ?hiha3 (by kernel_rfl) ?hfha3 ?hrha3 ?hQha3 ?hyha3 (hSha1) ?restha3
  case hiha3 => (simp only [List.getElem?_toArray, List.getElem?_cons_zero]; rfl)
  case hfha3 => kernel_rfl
  case hrha3 => kernel_rfl
  case hQha3 => exact fun _ _ _ h => h
  case hyha3 => refine Or.inl ⟨by rfl, ?_⟩; intro W hSw; go_simp; try with_reducible rfl
  try simp only [Act.put, List.setIfInBounds_toArray, List.set_cons_zero, List.set_cons_succ]
  refine' wpAnyH_take (i := 1) (oi := _) (v := _) ?hiha4 (by kernel_rfl) ?hfha4 ?hrha4 ?hQha4 ?hyha4 (hSha1) ?restha4
  case hiha4 => (simp only [List.getElem?_toArray, List.getElem?_cons_zero, List.getElem?_cons_succ]; rfl)
  case hfha4 => kernel_rfl
  case hrha4 => kernel_rfl
  case hQha4 => exact fun _ _ _ h => h
  case hyha4 => refine Or.inl ⟨by rfl, ?_⟩; intro W hSw; have hcc := HC0.out W hSw; go_simp; try with_reducible rfl
  try simp only [Act.put, List.setIfInBounds_toArray, List.set_cons_zero, List.set_cons_succ]
  refine' wpAnyH_take (i := 2) (oi := _) (v := _) ?hiha5 (by kernel_rfl) ?hfha5 ?hrha5 ?hQha5 ?hyha5 (hSha1) ?restha5
  case hiha5 => (simp only [List.getElem?_toArray, List.getElem?_cons_zero, List.getElem?_cons_succ]; rfl)
  case hfha5 => kernel_rfl
  case hrha5 => kernel_rfl
  case hQha5 => exact fun _ _ _ h => h
  case hyha5 => refine Or.inl ⟨by rfl, ?_⟩; intro W hSw; go_simp; try with_reducible rfl
  try simp only [Act.put, List.setIfInBounds_toArray, List.set_cons_zero, List.set_cons_succ]
  refine' wpAnyH_take (i := 3) (oi := _) (v := _) ?hiha6 (by kernel_rfl) ?hfha6 ?hrha6 ?hQha6 ?hyha6 (hSha1) ?restha6
  case hiha6 => (simp only [List.getElem?_toArray, List.getElem?_cons_zero, List.getElem?_cons_succ]; rfl)
  case hfha6 => kernel_rfl
  case hrha6 => kernel_rfl
  case hQha6 => exact fun _ _ _ h => h
  case hyha6 => refine Or.inl ⟨by rfl, ?_⟩; intro W hSw; go_simp; try with_reducible rfl
  try simp only [Act.put, List.setIfInBounds_toArray, List.set_cons_zero, List.set_cons_succ]
  refine' wpAnyH_take (i := 4) (oi := _) (v := _) ?hiha7 (by kernel_rfl) ?hfha7 ?hrha7 ?hQha7 ?hyha7 (hSha1) ?restha7
  case hiha7 => (simp only [List.getElem?_toArray, List.getElem?_cons_zero, List.getElem?_cons_succ]; rfl)
  case hfha7 => kernel_rfl
  case hrha7 => kernel_rfl
  case hQha7 => exact fun _ _ _ h => h
  case hyha7 => refine Or.inl ⟨by rfl, ?_⟩; intro W hSw; have hcc := HC1.out W hSw; go_simp; try with_reducible rfl
  try simp only [Act.put, List.setIfInBounds_toArray, List.set_cons_zero, List.set_cons_succ]
  refine' wpAnyH_take (i := 5) (oi := _) (v := _) ?hiha8 (by kernel_rfl) ?hfha8 ?hrha8 ?hQha8 ?hyha8 (hSha1) ?restha8
  case hiha8 => (simp only [List.getElem?_toArray, List.getElem?_cons_zero, List.getElem?_cons_succ]; rfl)
  case hfha8 => kernel_rfl
  case hrha8 => kernel_rfl
  case hQha8 => exact fun _ _ _ h => h
  case hyha8 => refine Or.inl ⟨by rfl, ?_⟩; intro W hSw; go_simp; try with_reducible rfl
  try simp only [Act.put, List.setIfInBounds_toArray, List.set_cons_zero, List.set_cons_succ]
  refine' wpAnyH_take (i := 6) (oi := _) (v := _) ?hiha9 (by kernel_rfl) ?hfha9 ?hrha9 ?hQha9 ?hyha9 (hSha1) ?restha9
  case hiha9 => (simp only [List.getElem?_toArray, List.getElem?_cons_zero, List.getElem?_cons_succ]; rfl)
  case hfha9 => kernel_rfl
  case hrha9 => kernel_rfl
  case hQha9 => exact fun _ _ _ h => h
  case hyha9 => refine Or.inl ⟨by rfl, ?_⟩; intro W hSw; go_simp; try with_reducible rfl
  try simp only [Act.put, List.setIfInBounds_toArray, List.set_cons_zero, List.set_cons_succ]
  refine' wpAnyH_take (i := 7) (oi := _) (v := _) ?hiha10 (by kernel_rfl) ?hfha10 ?hrha10 ?hQha10 ?hyha10 (hSha1) ?restha10
  case hiha10 => (simp only [List.getElem?_toArray, List.getElem?_cons_zero, List.getElem?_cons_succ]; rfl)
  case hfha10 => kernel_rfl
  case hrha10 => kernel_rfl
  case hQha10 => exact fun _ _ _ h => h
  case hyha10 => refine Or.inl ⟨by rfl, ?_⟩; intro W hSw; go_simp; try with_reducible rfl
  try simp only [Act.put, List.setIfInBounds_toArray, List.set_cons_zero, List.set_cons_succ]
  refine wpAnyH_done (by kernel_rfl) ?_ _
  have B1 := Lib.hid hSha1
  clear hSha1
  go_upto_region 8 with fail
  go_wp2_with fail
  refine (CL.out Wha2).mono ?_
  rintro e w' ⟨rfl, e1⟩
  obtain rfl := e1.symm
  clear e1
  go_upto_region 12 with fail
  have hx0 := HC0.out _ B1.out
  have hx1 := HC1.out _ B1.out
  go_wp2_with fail
  clear hx0 hx1
  refine (CP.out Wha2).mono ?_
  rintro e w2 ⟨rfl, hb2⟩
  obtain ⟨w4, hw4⟩ : ∃ x, x = (w2.alloc (.cells #[.slice none 0 0, .slice none 0 0] 66)).alloc (.cells #[.slice none 0 0, .slice none 0 0] 66) := ⟨_, rfl⟩
  have z14 : Cells w4 w2.heap.size 66 #[.slice none 0 0, .slice none 0 0] := by rw [hw4]; exact (Cells.new w2 _ _).below (below_alloc _ _)
  have z15 : Cells w4 (w2.heap.size + 1) 66 #[.slice none 0 0, .slice none 0 0] := by
    have := Cells.new (w2.alloc (.cells #[.slice none 0 0, .slice none 0 0] 66)) 66 #[.slice none 0 0, .slice none 0 0]
    rw [World.size_alloc] at this
    rw [hw4]; exact this
  have b24 : Below w2.heap.size w2 w4 := by rw [hw4]; exact (below_alloc w2 _).alloc (by simp) _
  have HW4 := Lib.hid hw4
  have c1 := z14.setRow #[.slice (some A) k c, .slice (some B) k d]
  have c2 := z15.setRow_other w2.heap.size (by omega) #[.slice (some A) k c, .slice (some B) k d]
  have c3 := c1.setRow_other (w2.heap.size + 1) (by omega) #[.slice (some (A.add k)) (m - k) (c - k), .slice (some (B.add k)) (n - k) (d - k)]
  have c4 := c2.setRow #[.slice (some (A.add k)) (m - k) (c - k), .slice (some (B.add k)) (n - k) (d - k)]
  have b25 : Below w2.heap.size w2 ((w4.setRow w2.heap.size #[.slice (some A) k c, .slice (some B) k d]).setRow (w2.heap.size + 1) #[.slice (some (A.add k)) (m - k) (c - k), .slice (some (B.add k)) (n - k) (d - k)]) := below_setRow (below_setRow b24 (Nat.le_refl _) _) (by omega) _
  have HZ4 := Lib.hid (And.intro z14 c2)
  have H5 := Lib.hid (And.intro c3 (And.intro c4 (below_on B1.out (Nat.le_refl _) (below_on hb2 (Nat.le_refl _) b25))))
  clear hw4 z14 z15 b24 c1 c2 c3 c4 b25
  go_upto_region 13 with (first
    | (rw [← HW4.out]; refine wpList_store_row rfl 66 (.tmp 14) (.tmp 83) rfl w2.heap.size #[.slice (some A) k c, .slice (some B) k d] rfl rfl 66 _ HZ4.out.1 sizeBoth rfl (by simp [Value.oneCell']) ?_)
    | (refine wpList_store_row rfl 66 (.tmp 15) (.tmp 84) rfl (w2.heap.size + 1) #[.slice (some (A.add k)) (m - k) (c - k), .slice (some (B.add k)) (n - k) (d - k)] rfl rfl 66 _ HZ4.out.2 sizeBoth rfl (by simp [Value.oneCell']) ?_))
  generalize ((w4.setRow w2.heap.size #[.slice (some A) k c, .slice (some B) k d]).setRow (w2.heap.size + 1) #[.slice (some (A.add k)) (m - k) (c - k), .slice (some (B.add k)) (n - k) (d - k)]) = w5 at H5 ⊢
  have hpge : wz.heap.size ≤ w2.heap.size := by have := Below.size B1.out; have := hb2.size; omega
  generalize w2.heap.size = p at H5 hpge ⊢
  clear HW4 HZ4 hb2
  have hx0 := H5.out.1.cell 0 rfl
  have hx1 := H5.out.1.cell 1 rfl
  go_wp2_with fail
  clear hx0 hx1
  refine (CD.out w5 (below_on B0.out (Nat.le_refl _) H5.out.2.2)).mono ?_
  rintro e w6 ⟨hT, hb6⟩
  rcases hT with ⟨rfl, hsame0⟩ | ⟨u, rfl, hu⟩
  · obtain ⟨w7, hw7⟩ : ∃ x, x = w6.alloc (.cells (bvs P1).toArray 63) := ⟨_, rfl⟩
    have b67 : Below w5.heap.size w5 w7 := by rw [hw7]; exact below_on hb6 (Nat.le_refl _) (below_alloc _ _)
    have f7 : BArr w7 w6.heap.size 63 P1 := by rw [hw7]; exact BArr.new _ _ _
    have HW7 := Lib.hid hw7
    have B7 := Lib.hid (below_on H5.out.2.2 (Nat.le_refl _) b67)
    have HX7 := Lib.hid (And.intro (H5.out.2.1.below b67) (And.intro hsame0 (show wz.heap.size ≤ w6.heap.size by have := Below.size H5.out.2.2; have := hb6.size; omega)))
    have hP64 := HP1.out.2
    clear hw7 b67 hb6 hsame0
    go_upto_region 14 with ((with_reducible refine wpList_store_newPC w6 _ ?_ rfl (.tmp 16) (.tmp 86) rfl rfl P1 hP64 rfl ?_); · simp)
    rw [← HW7.out]
    generalize w6.heap.size = p2 at f7 HX7 ⊢
    have HF7 := Lib.hid f7
    clear f7 HW7
    have HD := Lib.hid (fun (W : World) (hW : But (fun x => x = g + 1 ∨ x = g + 2) w7 W) => show Cells W (p + 1) 66 #[.slice (some (A.add k)) (m - k) (c - k), .slice (some (B.add k)) (n - k) (d - k)] from but_cells hW HX7.out.1 (by have := HZ.out.size; omega))
    have hShb1 : Below w7.heap.size w7 w7.drew := (Below.refl _ _).drew
    have hohb3 := (HZ.out.old.below B7.out).below hShb1
    have hnhb4 := (HZ.out.grown.below B7.out).below hShb1
    refine wp_region_held_drew (S := fun W => But (fun x => x = g + 1 ∨ x = g + 2) w7 W) (by kernel_rfl) (But.of_below hShb1) (fun _ => ?_)
    change wpAnyH _ _ _ _ _ _ _ _ w7.drew
    generalize w7.drew = Whb2 at hShb1 hohb3 hnhb4 ⊢
    refine' wpAnyH_take (i := 0) (oi := _) (v := .agg #[.slice (some (A.add k)) (m - k) (c - k), .slice (some (B.add k)) (n - k) (d - k)]) ?hihb5 (by kernel_rfl) ?hfhb5 ?hrhb5 ?hQhb5 ?hyhb5 (But.of_below hShb1) ?resthb5
    case hihb5 => (simp only [List.getElem?_toArray, List.getElem?_cons_zero]; rfl)
    case hfhb5 => kernel_rfl
    case hrhb5 => kernel_rfl
    case hQhb5 => exact fun _ _ _ h => h
    case hyhb5 => refine Or.inl ⟨by rfl, ?_⟩; intro W hSw; exact load_both_op (.tmp 15) (by rfl) (by rfl) (HD.out W hSw)
    try simp only [Act.put, List.setIfInBounds_toArray, List.set_cons_zero, List.set_cons_succ]
    refine' wpAnyH_take (i := 1) (oi := _) (v := _) ?hihb6 (by kernel_rfl) ?hfhb6 ?hrhb6 ?hQhb6 ?hyhb6 (But.of_below hShb1) ?resthb6
    case hihb6 => (simp only [List.getElem?_toArray, List.getElem?_cons_zero, List.getElem?_cons_succ]; rfl)
    case hfhb6 => kernel_rfl
    case hrhb6 => kernel_rfl
    case hQhb6 => exact fun _ _ _ h => h
    case hyhb6 => refine Or.inl ⟨by rfl, ?_⟩; intro W hSw; go_simp; try with_reducible rfl
    try simp only [Act.put, List.setIfInBounds_toArray, List.set_cons_zero, List.set_cons_succ]
    refine' wpAnyH_take (i := 2) (oi := _) (v := _) ?hihb7 (by kernel_rfl) ?hfhb7 ?hrhb7 ?hQhb7 ?hyhb7 (But.of_below hShb1) ?resthb7
    case hihb7 => (simp only [List.getElem?_toArray, List.getElem?_cons_zero, List.getElem?_cons_succ]; rfl)
    case hfhb7 => kernel_rfl
    case hrhb7 => kernel_rfl
    case hQhb7 => exact fun _ _ _ h => h
    case hyhb7 => refine Or.inl ⟨by rfl, ?_⟩; intro W hSw; go_simp; try with_reducible rfl
    try simp only [Act.put, List.setIfInBounds_toArray, List.set_cons_zero, List.set_cons_succ]
    refine' wpAnyH_take (i := 3) (oi := _) (v := _) ?hihb8 (by kernel_rfl) ?hfhb8 ?hrhb8 ?hQhb8 ?hyhb8 (But.of_below hShb1) ?resthb8
    case hihb8 => (simp only [List.getElem?_toArray, List.getElem?_cons_zero, List.getElem?_cons_succ]; rfl)
    case hfhb8 => kernel_rfl
    case hrhb8 => kernel_rfl
    case hQhb8 => exact fun _ _ _ h => h
    case hyhb8 => refine Or.inl ⟨by rfl, ?_⟩; intro W hSw; go_simp; try with_reducible rfl
    try simp only [Act.put, List.setIfInBounds_toArray, List.set_cons_zero, List.set_cons_succ]
    refine wpAnyH_ready (rs := [4]) (by kernel_rfl) (by simp) ?_
    refine' (AllReadyH.cons (o := _) ?hihb9 (fun K hK => ?_) AllReadyH.nil)
    case hihb9 => (simp only [List.getElem?_toArray, List.getElem?_cons_zero, List.getElem?_cons_succ]; rfl)
    go_simp
    go_at_call 39
    refine (C1.out Whb2 (below_on B0.out (Nat.le_refl _) (below_on B7.out (Nat.le_refl _) hShb1))).mono ?_
    rintro e Whb12 ⟨hThb13, hbhb10⟩
    have hBhb11 := below_on hShb1 (Nat.le_refl _) hbhb10
    rcases hThb13 with ⟨rfl, hs1⟩ | ⟨u, rfl, hu⟩
    · skip
      have hohb14 := hohb3.below hbhb10
      have hnhb15 := hnhb4.below hbhb10
      refine hK.out _ _ (But.of_below hBhb11) (fun _ => ?_)
      clear hK K
      try simp only [Act.put, List.setIfInBounds_toArray, List.set_cons_zero, List.set_cons_succ]
      refine' wpAnyH_take (i := 5) (oi := _) (v := _) ?hihb16 (by kernel_rfl) ?hfhb16 ?hrhb16 ?hQhb16 ?hyhb16 (But.of_below hBhb11) ?resthb16
      case hihb16 => (simp only [List.getElem?_toArray, List.getElem?_cons_zero, List.getElem?_cons_succ]; rfl)
      case hfhb16 => kernel_rfl
      case hrhb16 => kernel_rfl
      case hQhb16 => exact fun _ _ _ h => h
      case hyhb16 => refine Or.inl ⟨by rfl, ?_⟩; intro W hSw; go_simp; try with_reducible rfl
      try simp only [Act.put, List.setIfInBounds_toArray, List.set_cons_zero, List.set_cons_succ]
      refine' wpAnyH_take (i := 6) (oi := _) (v := _) ?hihb17 (by kernel_rfl) ?hfhb17 ?hrhb17 ?hQhb17 ?hyhb17 (But.of_below hBhb11) ?resthb17
      case hihb17 => (simp only [List.getElem?_toArray, List.getElem?_cons_zero, List.getElem?_cons_succ]; rfl)
      case hfhb17 => kernel_rfl
      case hrhb17 => kernel_rfl
      case hQhb17 => exact fun _ _ _ h => h
      case hyhb17 => refine Or.inl ⟨by rfl, ?_⟩; intro W hSw; go_simp; try with_reducible rfl
      try simp only [Act.put, List.setIfInBounds_toArray, List.set_cons_zero, List.set_cons_succ]
      refine' wpAnyH_take (i := 7) (oi := _) (v := _) ?hihb18 (by kernel_rfl) ?hfhb18 ?hrhb18 ?hQhb18 ?hyhb18 (But.of_below hBhb11) ?resthb18
      case hihb18 => (simp only [List.getElem?_toArray, List.getElem?_cons_zero, List.getElem?_cons_succ]; rfl)
      case hfhb18 => kernel_rfl
      case hrhb18 => kernel_rfl
      case hQhb18 => exact fun _ _ _ h => h
      case hyhb18 => refine Or.inl ⟨by rfl, ?_⟩; intro W hSw; go_simp; try with_reducible rfl
      try simp only [Act.put, List.setIfInBounds_toArray, List.set_cons_zero, List.set_cons_succ]
      refine wpAnyH_ready (rs := [8]) (by kernel_rfl) (by simp) ?_
      refine' (AllReadyH.cons (o := _) ?hihb19 (fun K hK => ?_) AllReadyH.nil)
      case hihb19 => (simp only [List.getElem?_toArray, List.getElem?_cons_zero, List.getElem?_cons_succ]; rfl)
      rw [if_pos (by rfl)]
      refine step_store_pairC (.tmp 6) (.tmp 93) rfl (g + 1) rfl zero64 T1 (by rfl) HAR.out.2.2.1 hohb14 rfl ?_
      have hBhb20 := but_setRow (S := (fun x => x = g + 1 ∨ x = g + 2)) (But.of_below hBhb11) (.inl rfl) (bvs T1).toArray
      have hohb22 := hohb14.setRow T1
      have hnhb23 := hnhb15.setRow_other (g + 1) (by omega) (bvs T1).toArray
      refine hK.out _ _ hBhb20 (fun _ => ?_)
      clear hK K
      try simp only [Act.put]
      generalize Whb12.setRow (g + 1) (bvs T1).toArray = Whb21 at hBhb20 hohb22 hnhb23 ⊢
      refine wpAnyH_ready (rs := [9]) (by kernel_rfl) (by simp) ?_
      refine' (AllReadyH.cons (o := _) ?hihb24 (fun K hK => ?_) AllReadyH.nil)
      case hihb24 => (simp only [List.getElem?_toArray, List.getElem?_cons_zero, List.getElem?_cons_succ]; rfl)
      rw [if_pos (by rfl)]
      refine step_store_pairC (.tmp 7) (.tmp 94) rfl (g + 2) rfl zero64 T2 (by rfl) HAR.out.2.2.2.1 hnhb23 rfl ?_
      have hBhb25 := but_setRow (S := (fun x => x = g + 1 ∨ x = g + 2)) hBhb20 (.inr rfl) (bvs T2).toArray
      have hohb27 := hohb22.setRow_other (g + 2) (by omega) (bvs T2).toArray
      have hnhb28 := hnhb23.setRow T2
      refine hK.out _ _ hBhb25 (fun _ => ?_)
      clear hK K
      try simp only [Act.put]
      generalize Whb21.setRow (g + 2) (bvs T2).toArray = Whb26 at hBhb25 hohb27 hnhb28 ⊢
      refine wpAnyH_done (by kernel_rfl) ?_ _
      have HS1 := Lib.hid hs1
      have B8 := Lib.hid hBhb25
      have HO := Lib.hid (And.intro hohb27 hnhb28)
      clear hs1 hBhb25 hohb27 hnhb28
      go_upto_region 15 with fail
      have hw78 := B8.out.size
      have hp2 : ¬ (p2 = g + 1 ∨ p2 = g + 2) := by have := HZ.out.size; have := HX7.out.2.2; omega
      have HAZ2 := Lib.hid (fun (W : World) (hW : But (fun x => x = g + 1 ∨ x = g + 2) Whb26 W) => show At W (pd.add ((q - 1) * 32)) Z from HAZ.out W ((But.of_below B7.out).trans (B8.out.trans hW)))
      have HP8 := Lib.hid (fun (W : World) (hW : But (fun x => x = g + 1 ∨ x = g + 2) Whb26 W) => show At W ⟨p2, 0, none⟩ r1 ∧ At W ⟨p2, 32, none⟩ s1 from by
        have h := but_barr (B8.out.trans hW) HF7.out hp2
        rw [← HP1.out.1] at h
        exact ⟨at_fst h, at_snd h HAR.out.2.2.2.2.1⟩)
      have BW8 := Lib.hid (show Below g w Whb26 from below_of_but B8.out (below_on HZ.out.below (Nat.le_of_eq HG.out.symm) B7.out) two_ge (by have := HZ.out.size; have := Below.size B7.out; omega))
      clear hp2 hw78
      have hShc1 : Below Whb26.heap.size Whb26 Whb26.drew := (Below.refl _ _).drew
      have hohc3 := HO.out.1.below hShc1
      have hnhc4 := HO.out.2.below hShc1
      refine wp_region_held_drew (S := fun W => But (fun x => x = g + 1 ∨ x = g + 2) Whb26 W) (by kernel_rfl) (But.of_below hShc1) (fun _ => ?_)
      change wpAnyH _ _ _ _ _ _ _ _ Whb26.drew
      generalize Whb26.drew = Whc2 at hShc1 hohc3 hnhc4 ⊢
      refine' wpAnyH_take (i := 0) (oi := _) (v := _) ?hihc5 (by kernel_rfl) ?hfhc5 ?hrhc5 ?hQhc5 ?hyhc5 (But.of_below hShc1) ?resthc5
      case hihc5 => (simp only [List.getElem?_toArray, List.getElem?_cons_zero]; rfl)
      case hfhc5 => kernel_rfl
      case hrhc5 => kernel_rfl
      case hQhc5 => exact fun _ _ _ h => h
      case hyhc5 => refine Or.inl ⟨by rfl, ?_⟩; intro W hSw; go_simp; try with_reducible rfl
      try simp only [Act.put, List.setIfInBounds_toArray, List.set_cons_zero, List.set_cons_succ]
      refine' wpAnyH_take (i := 1) (oi := _) (v := sv r1) ?hihc6 (by kernel_rfl) ?hfhc6 ?hrhc6 ?hQhc6 ?hyhc6 (But.of_below hShc1) ?resthc6
      case hihc6 => (simp only [List.getElem?_toArray, List.getElem?_cons_zero, List.getElem?_cons_succ]; rfl)
      case hfhc6 => kernel_rfl
      case hrhc6 => kernel_rfl
      case hQhc6 => exact fun _ _ _ h => h
      case hyhc6 => refine Or.inl ⟨by rfl, ?_⟩; intro W hSw; exact load_sum_op (.tmp 95) (by rfl) (by rfl) HAR.out.2.2.2.2.1 (HP8.out W hSw).1
      try simp only [Act.put, List.setIfInBounds_toArray, List.set_cons_zero, List.set_cons_succ]
      refine' wpAnyH_take (i := 2) (oi := _) (v := _) ?hihc7 (by kernel_rfl) ?hfhc7 ?hrhc7 ?hQhc7 ?hyhc7 (But.of_below hShc1) ?resthc7
      case hihc7 => (simp only [List.getElem?_toArray, List.getElem?_cons_zero, List.getElem?_cons_succ]; rfl)
      case hfhc7 => kernel_rfl
      case hrhc7 => kernel_rfl
      case hQhc7 => exact fun _ _ _ h => h
      case hyhc7 => refine Or.inl ⟨by rfl, ?_⟩; intro W hSw; go_simp; try with_reducible rfl
      try simp only [Act.put, List.setIfInBounds_toArray, List.set_cons_zero, List.set_cons_succ]
      refine' wpAnyH_take (i := 3) (oi := _) (v := _) ?hihc8 (by kernel_rfl) ?hfhc8 ?hrhc8 ?hQhc8 ?hyhc8 (But.of_below hShc1) ?resthc8
      case hihc8 => (simp only [List.getElem?_toArray, List.getElem?_cons_zero, List.getElem?_cons_succ]; rfl)
      case hfhc8 => kernel_rfl
      case hrhc8 => kernel_rfl
      case hQhc8 => exact fun _ _ _ h => h
      case hyhc8 => refine Or.inl ⟨by rfl, ?_⟩; intro W hSw; go_simp; try with_reducible rfl
      try simp only [Act.put, List.setIfInBounds_toArray, List.set_cons_zero, List.set_cons_succ]
      refine' wpAnyH_take (i := 4) (oi := _) (v := _) ?hihc9 (by kernel_rfl) ?hfhc9 ?hrhc9 ?hQhc9 ?hyhc9 (But.of_below hShc1) ?resthc9
      case hihc9 => (simp only [List.getElem?_toArray, List.getElem?_cons_zero, List.getElem?_cons_succ]; rfl)
      case hfhc9 => kernel_rfl
      case hrhc9 => kernel_rfl
      case hQhc9 => exact fun _ _ _ h => h
      case hyhc9 => refine Or.inl ⟨by rfl, ?_⟩; intro W hSw; go_simp; try with_reducible rfl
      try simp only [Act.put, List.setIfInBounds_toArray, List.set_cons_zero, List.set_cons_succ]
      refine' wpAnyH_take (i := 5) (oi := _) (v := sv Z) ?hihc10 (by kernel_rfl) ?hfhc10 ?hrhc10 ?hQhc10 ?hyhc10 (But.of_below hShc1) ?resthc10
      case hihc10 => (simp only [List.getElem?_toArray, List.getElem?_cons_zero, List.getElem?_cons_succ]; rfl)
      case hfhc10 => kernel_rfl
      case hrhc10 => kernel_rfl
      case hQhc10 => exact fun _ _ _ h => h
      case hyhc10 => refine Or.inl ⟨by rfl, ?_⟩; intro W hSw; exact load_sum_op (.tmp 99) (by rfl) (by rfl) HAR.out.2.2.2.2.2.2 (HAZ2.out W hSw)
      try simp only [Act.put, List.setIfInBounds_toArray, List.set_cons_zero, List.set_cons_succ]
      refine' wpAnyH_take (i := 6) (oi := _) (v := sv (r1 ++ Z)) ?hihc11 (by kernel_rfl) ?hfhc11 ?hrhc11 ?hQhc11 ?hyhc11 (But.of_below hShc1) ?resthc11
      case hihc11 => (simp only [List.getElem?_toArray, List.getElem?_cons_zero, List.getElem?_cons_succ]; rfl)
      case hfhc11 => kernel_rfl
      case hrhc11 => kernel_rfl
      case hQhc11 => exact fun _ _ _ h => h
      case hyhc11 => exact yields_build_pairC (by rfl) (.tmp 96) (.tmp 100) (by rfl) r1 Z (by rfl) (by rfl) HAR.out.2.2.2.2.1 HAR.out.2.2.2.2.2.2
      try simp only [Act.put, List.setIfInBounds_toArray, List.set_cons_zero, List.set_cons_succ]
      refine' wpAnyH_take (i := 9) (oi := _) (v := _) ?hihc12 (by kernel_rfl) ?hfhc12 ?hrhc12 ?hQhc12 ?hyhc12 (But.of_below hShc1) ?resthc12
      case hihc12 => (simp only [List.getElem?_toArray, List.getElem?_cons_zero, List.getElem?_cons_succ]; rfl)
      case hfhc12 => kernel_rfl
      case hrhc12 => kernel_rfl
      case hQhc12 => exact fun _ _ _ h => h
      case hyhc12 => refine Or.inl ⟨by rfl, ?_⟩; intro W hSw; go_simp; try with_reducible rfl
      try simp only [Act.put, List.setIfInBounds_toArray, List.set_cons_zero, List.set_cons_succ]
      refine' wpAnyH_take (i := 10) (oi := _) (v := sv s1) ?hihc13 (by kernel_rfl) ?hfhc13 ?hrhc13 ?hQhc13 ?hyhc13 (But.of_below hShc1) ?resthc13
      case hihc13 => (simp only [List.getElem?_toArray, List.getElem?_cons_zero, List.getElem?_cons_succ]; rfl)
      case hfhc13 => kernel_rfl
      case hrhc13 => kernel_rfl
      case hQhc13 => exact fun _ _ _ h => h
      case hyhc13 => refine Or.inl ⟨by rfl, ?_⟩; intro W hSw; exact load_sum_op (.tmp 104) (by rfl) (by rfl) HAR.out.2.2.2.2.2.1 (HP8.out W hSw).2
      try simp only [Act.put, List.setIfInBounds_toArray, List.set_cons_zero, List.set_cons_succ]
      refine' wpAnyH_take (i := 11) (oi := _) (v := _) ?hihc14 (by kernel_rfl) ?hfhc14 ?hrhc14 ?hQhc14 ?hyhc14 (But.of_below hShc1) ?resthc14
      case hihc14 => (simp only [List.getElem?_toArray, List.getElem?_cons_zero, List.getElem?_cons_succ]; rfl)
      case hfhc14 => kernel_rfl
      case hrhc14 => kernel_rfl
      case hQhc14 => exact fun _ _ _ h => h
      case hyhc14 => refine Or.inl ⟨by rfl, ?_⟩; intro W hSw; go_simp; try with_reducible rfl
      try simp only [Act.put, List.setIfInBounds_toArray, List.set_cons_zero, List.set_cons_succ]
      refine' wpAnyH_take (i := 12) (oi := _) (v := _) ?hihc15 (by kernel_rfl) ?hfhc15 ?hrhc15 ?hQhc15 ?hyhc15 (But.of_below hShc1) ?resthc15
      case hihc15 => (simp only [List.getElem?_toArray, List.getElem?_cons_zero, List.getElem?_cons_succ]; rfl)
      case hfhc15 => kernel_rfl
      case hrhc15 => kernel_rfl
      case hQhc15 => exact fun _ _ _ h => h
      case hyhc15 => refine Or.inl ⟨by rfl, ?_⟩; intro W hSw; go_simp; try with_reducible rfl
      try simp only [Act.put, List.setIfInBounds_toArray, List.set_cons_zero, List.set_cons_succ]
      refine' wpAnyH_take (i := 13) (oi := _) (v := _) ?hihc16 (by kernel_rfl) ?hfhc16 ?hrhc16 ?hQhc16 ?hyhc16 (But.of_below hShc1) ?resthc16
      case hihc16 => (simp only [List.getElem?_toArray, List.getElem?_cons_zero, List.getElem?_cons_succ]; rfl)
      case hfhc16 => kernel_rfl
      case hrhc16 => kernel_rfl
      case hQhc16 => exact fun _ _ _ h => h
      case hyhc16 => refine Or.inl ⟨by rfl, ?_⟩; intro W hSw; go_simp; try with_reducible rfl
      try simp only [Act.put, List.setIfInBounds_toArray, List.set_cons_zero, List.set_cons_succ]
      refine' wpAnyH_take (i := 14) (oi := _) (v := sv Z) ?hihc17 (by kernel_rfl) ?hfhc17 ?hrhc17 ?hQhc17 ?hyhc17 (But.of_below hShc1) ?resthc17
      case hihc17 => (simp only [List.getElem?_toArray, List.getElem?_cons_zero, List.getElem?_cons_succ]; rfl)
      case hfhc17 => kernel_rfl
      case hrhc17 => kernel_rfl
      case hQhc17 => exact fun _ _ _ h => h
      case hyhc17 => refine Or.inl ⟨by rfl, ?_⟩; intro W hSw; exact load_sum_op (.tmp 108) (by rfl) (by rfl) HAR.out.2.2.2.2.2.2 (HAZ2.out W hSw)
      try simp only [Act.put, List.setIfInBounds_toArray, List.set_cons_zero, List.set_cons_succ]
      refine' wpAnyH_take (i := 15) (oi := _) (v := sv (s1 ++ Z)) ?hihc18 (by kernel_rfl) ?hfhc18 ?hrhc18 ?hQhc18 ?hyhc18 (But.of_below hShc1) ?resthc18
      case hihc18 => (simp only [List.getElem?_toArray, List.getElem?_cons_zero, List.getElem?_cons_succ]; rfl)
      case hfhc18 => kernel_rfl
      case hrhc18 => kernel_rfl
      case hQhc18 => exact fun _ _ _ h => h
      case hyhc18 => exact yields_build_pairC (by rfl) (.tmp 105) (.tmp 109) (by rfl) s1 Z (by rfl) (by rfl) HAR.out.2.2.2.2.2.1 HAR.out.2.2.2.2.2.2
      try simp only [Act.put, List.setIfInBounds_toArray, List.set_cons_zero, List.set_cons_succ]
      refine wpAnyH_ready (rs := [7, 16]) (by kernel_rfl) (by simp) ?_
      refine' (AllReadyH.cons (o := _) ?hihc19 (fun K hK => ?_) (AllReadyH.cons (o := _) ?hihc20 (fun K hK => ?_) AllReadyH.nil))
      case hihc19 => (simp only [List.getElem?_toArray, List.getElem?_cons_zero, List.getElem?_cons_succ]; rfl)
      case hihc20 => (simp only [List.getElem?_toArray, List.getElem?_cons_zero, List.getElem?_cons_succ]; rfl)
      · skip
        rw [if_pos (by rfl)]
        refine step_load_pairC (.tmp 6) (by rfl) (g := g + 1) (by rfl) T1 HAR.out.2.2.1 hohc3 ?_
        refine hK.out _ _ (But.of_below hShc1) (fun _ => ?_)
        clear hK K
        try simp only [Act.put, List.setIfInBounds_toArray, List.set_cons_zero, List.set_cons_succ]
        refine wpAnyH_ready (rs := [8, 16]) (by kernel_rfl) (by simp) ?_
        refine' (AllReadyH.cons (o := _) ?hihc21 (fun K hK => ?_) (AllReadyH.cons (o := _) ?hihc22 (fun K hK => ?_) AllReadyH.nil))
        case hihc21 => (simp only [List.getElem?_toArray, List.getElem?_cons_zero, List.getElem?_cons_succ]; rfl)
        case hihc22 => (simp only [List.getElem?_toArray, List.getElem?_cons_zero, List.getElem?_cons_succ]; rfl)
        · skip
          go_simp
          go_at_call 67
          refine (C3.out Whc2 (by rw [HG.out]; exact below_on BW8.out (Nat.le_of_eq HG.out.symm) hShc1)).mono ?_
          rintro e Whc25 ⟨hThc26, hbhc23⟩
          have hBhc24 := below_on hShc1 (Nat.le_refl _) hbhc23
          rcases hThc26 with ⟨rfl, hs3⟩ | ⟨u, rfl, hu⟩
          · skip
            have hohc27 := hohc3.below hbhc23
            have hnhc28 := hnhc4.below hbhc23
            refine hK.out _ _ (But.of_below hBhc24) (fun _ => ?_)
            clear hK K
            try simp only [Act.put, List.setIfInBounds_toArray, List.set_cons_zero, List.set_cons_succ]
            refine wpAnyH_ready (rs := [16]) (by kernel_rfl) (by simp) ?_
            refine' (AllReadyH.cons (o := _) ?hihc29 (fun K hK => ?_) AllReadyH.nil)
            case hihc29 => (simp only [List.getElem?_toArray, List.getElem?_cons_zero, List.getElem?_cons_succ]; rfl)
            rw [if_pos (by rfl)]
            refine step_load_pairC (.tmp 7) (by rfl) (g := g + 2) (by rfl) T2 HAR.out.2.2.2.1 hnhc28 ?_
            refine hK.out _ _ (But.of_below hBhc24) (fun _ => ?_)
            clear hK K
            try simp only [Act.put, List.setIfInBounds_toArray, List.set_cons_zero, List.set_cons_succ]
            refine wpAnyH_ready (rs := [17]) (by kernel_rfl) (by simp) ?_
            refine' (AllReadyH.cons (o := _) ?hihc30 (fun K hK => ?_) AllReadyH.nil)
            case hihc30 => (simp only [List.getElem?_toArray, List.getElem?_cons_zero, List.getElem?_cons_succ]; rfl)
            go_simp
            go_at_call 67
            refine (C4.out Whc25 (by rw [HG.out]; exact below_on BW8.out (Nat.le_of_eq HG.out.symm) hBhc24)).mono ?_
            rintro e Whc33 ⟨hThc34, hbhc31⟩
            have hBhc32 := below_on hBhc24 (Nat.le_refl _) hbhc31
            rcases hThc34 with ⟨rfl, hs4⟩ | ⟨u, rfl, hu⟩
            · skip
              have hohc35 := hohc27.below hbhc31
              have hnhc36 := hnhc28.below hbhc31
              refine hK.out _ _ (But.of_below hBhc32) (fun _ => ?_)
              clear hK K
              try simp only [Act.put, List.setIfInBounds_toArray, List.set_cons_zero, List.set_cons_succ]
              refine wpAnyH_ready (rs := [18]) (by kernel_rfl) (by simp) ?_
              refine' (AllReadyH.cons (o := _) ?hihc37 (fun K hK => ?_) AllReadyH.nil)
              case hihc37 => (simp only [List.getElem?_toArray, List.getElem?_cons_zero, List.getElem?_cons_succ]; rfl)
              rw [if_pos (by rfl)]
              refine step_store_pairC (.tmp 6) (.tmp 103) rfl (g + 1) rfl T1 Q1 HAR.out.2.2.1 HAR.out.1 hohc35 rfl ?_
              have hBhc38 := but_setRow (S := (fun x => x = g + 1 ∨ x = g + 2)) (But.of_below hBhc32) (.inl rfl) (bvs Q1).toArray
              have hohc40 := hohc35.setRow Q1
              have hnhc41 := hnhc36.setRow_other (g + 1) (by omega) (bvs Q1).toArray
              refine hK.out _ _ hBhc38 (fun _ => ?_)
              clear hK K
              try simp only [Act.put]
              generalize Whc33.setRow (g + 1) (bvs Q1).toArray = Whc39 at hBhc38 hohc40 hnhc41 ⊢
              refine wpAnyH_ready (rs := [19]) (by kernel_rfl) (by simp) ?_
              refine' (AllReadyH.cons (o := _) ?hihc42 (fun K hK => ?_) AllReadyH.nil)
              case hihc42 => (simp only [List.getElem?_toArray, List.getElem?_cons_zero, List.getElem?_cons_succ]; rfl)
              rw [if_pos (by rfl)]
              refine step_store_pairC (.tmp 7) (.tmp 112) rfl (g + 2) rfl T2 Q2 HAR.out.2.2.2.1 HAR.out.2.1 hnhc41 rfl ?_
              have hBhc43 := but_setRow (S := (fun x => x = g + 1 ∨ x = g + 2)) hBhc38 (.inr rfl) (bvs Q2).toArray
              have hohc45 := hohc40.setRow_other (g + 2) (by omega) (bvs Q2).toArray
              have hnhc46 := hnhc41.setRow Q2
              refine hK.out _ _ hBhc43 (fun _ => ?_)
              clear hK K
              try simp only [Act.put]
              generalize Whc39.setRow (g + 2) (bvs Q2).toArray = Whc44 at hBhc43 hohc45 hnhc46 ⊢
              refine wpAnyH_done (by kernel_rfl) ?_ _
              go_wp2_with fail
              have hfin : Below g w Whc44 := below_of_but hBhc43 BW8.out two_ge (by have := HZ.out.size; have := Below.size B7.out; have := B8.out.size; omega)
              refine bodyPost_ret_by (results_cell_cell (p := 6) (q := 7) (ty := 63) (ty2 := 63) (by kernel_rfl) _ _ ⟨g + 1, 0, none⟩ ⟨g + 2, 0, none⟩ (sv Q1) (sv Q2) rfl rfl (run_load_pairC _ _ _ HAR.out.1 hohc45.at_) (run_load_pairC _ _ _ HAR.out.2.1 hnhc46.at_)) rfl ?_
              exact ⟨.inl ⟨rfl, HFIN.out HX7.out.2.1 HS1.out hs3 hs4⟩, hfin⟩
            · skip
              go_wp2
              exact ⟨rfl, .inr ⟨u, rfl, hu⟩, by rw [← HG.out]; exact (by rw [HG.out]; exact below_on BW8.out (Nat.le_of_eq HG.out.symm) hBhc32)⟩
          · skip
            go_wp2
            exact ⟨rfl, .inr ⟨u, rfl, hu⟩, by rw [← HG.out]; exact (by rw [HG.out]; exact below_on BW8.out (Nat.le_of_eq HG.out.symm) hBhc24)⟩
        · skip
          rw [if_pos (by rfl)]
          refine step_load_pairC (.tmp 7) (by rfl) (g := g + 2) (by rfl) T2 HAR.out.2.2.2.1 hnhc4 ?_
          refine hK.out _ _ (But.of_below hShc1) (fun _ => ?_)
          clear hK K
          try simp only [Act.put, List.setIfInBounds_toArray, List.set_cons_zero, List.set_cons_succ]
          refine wpAnyH_ready (rs := [8]) (by kernel_rfl) (by simp) ?_
          refine' (AllReadyH.cons (o := _) ?hihc47 (fun K hK => ?_) AllReadyH.nil)
          case hihc47 => (simp only [List.getElem?_toArray, List.getElem?_cons_zero, List.getElem?_cons_succ]; rfl)
          go_simp
          go_at_call 67
          refine (C3.out Whc2 (by rw [HG.out]; exact below_on BW8.out (Nat.le_of_eq HG.out.symm) hShc1)).mono ?_
          rintro e Whc50 ⟨hThc51, hbhc48⟩
          have hBhc49 := below_on hShc1 (Nat.le_refl _) hbhc48
          rcases hThc51 with ⟨rfl, hs3⟩ | ⟨u, rfl, hu⟩
          · skip
            have hohc52 := hohc3.below hbhc48
            have hnhc53 := hnhc4.below hbhc48
            refine hK.out _ _ (But.of_below hBhc49) (fun _ => ?_)
            clear hK K
            try simp only [Act.put, List.setIfInBounds_toArray, List.set_cons_zero, List.set_cons_succ]
            refine wpAnyH_ready (rs := [17]) (by kernel_rfl) (by simp) ?_
            refine' (AllReadyH.cons (o := _) ?hihc54 (fun K hK => ?_) AllReadyH.nil)
            case hihc54 => (simp only [List.getElem?_toArray, List.getElem?_cons_zero, List.getElem?_cons_succ]; rfl)
            go_simp
            go_at_call 67
            refine (C4.out Whc50 (by rw [HG.out]; exact below_on BW8.out (Nat.le_of_eq HG.out.symm) hBhc49)).mono ?_
            rintro e Whc57 ⟨hThc58, hbhc55⟩
            have hBhc56 := below_on hBhc49 (Nat.le_refl _) hbhc55
            rcases hThc58 with ⟨rfl, hs4⟩ | ⟨u, rfl, hu⟩
            · skip
              have hohc59 := hohc52.below hbhc55
              have hnhc60 := hnhc53.below hbhc55
              refine hK.out _ _ (But.of_below hBhc56) (fun _ => ?_)
              clear hK K
              try simp only [Act.put, List.setIfInBounds_toArray, List.set_cons_zero, List.set_cons_succ]
              refine wpAnyH_ready (rs := [18]) (by kernel_rfl) (by simp) ?_
              refine' (AllReadyH.cons (o := _) ?hihc61 (fun K hK => ?_) AllReadyH.nil)
              case hihc61 => (simp only [List.getElem?_toArray, List.getElem?_cons_zero, List.getElem?_cons_succ]; rfl)
              rw [if_pos (by rfl)]
              refine step_store_pairC (.tmp 6) (.tmp 103) rfl (g + 1) rfl T1 Q1 HAR.out.2.2.1 HAR.out.1 hohc59 rfl ?_
              have hBhc62 := but_setRow (S := (fun x => x = g + 1 ∨ x = g + 2)) (But.of_below hBhc56) (.inl rfl) (bvs Q1).toArray
              have hohc64 := hohc59.setRow Q1
              have hnhc65 := hnhc60.setRow_other (g + 1) (by omega) (bvs Q1).toArray
              refine hK.out _ _ hBhc62 (fun _ => ?_)
              clear hK K
              try simp only [Act.put]
              generalize Whc57.setRow (g + 1) (bvs Q1).toArray = Whc63 at hBhc62 hohc64 hnhc65 ⊢
              refine wpAnyH_ready (rs := [19]) (by kernel_rfl) (by simp) ?_
              refine' (AllReadyH.cons (o := _) ?hihc66 (fun K hK => ?_) AllReadyH.nil)
              case hihc66 => (simp only [List.getElem?_toArray, List.getElem?_cons_zero, List.getElem?_cons_succ]; rfl)
              rw [if_pos (by rfl)]
              refine step_store_pairC (.tmp 7) (.tmp 112) rfl (g + 2) rfl T2 Q2 HAR.out.2.2.2.1 HAR.out.2.1 hnhc65 rfl ?_
              have hBhc67 := but_setRow (S := (fun x => x = g + 1 ∨ x = g + 2)) hBhc62 (.inr rfl) (bvs Q2).toArray
              have hohc69 := hohc64.setRow_other (g + 2) (by omega) (bvs Q2).toArray
              have hnhc70 := hnhc65.setRow Q2
              refine hK.out _ _ hBhc67 (fun _ => ?_)
              clear hK K
              try simp only [Act.put]
              generalize Whc63.setRow (g + 2) (bvs Q2).toArray = Whc68 at hBhc67 hohc69 hnhc70 ⊢
              refine wpAnyH_done (by kernel_rfl) ?_ _
              go_wp2_with fail
              have hfin : Below g w Whc68 := below_of_but hBhc67 BW8.out two_ge (by have := HZ.out.size; have := Below.size B7.out; have := B8.out.size; omega)
              refine bodyPost_ret_by (results_cell_cell (p := 6) (q := 7) (ty := 63) (ty2 := 63) (by kernel_rfl) _ _ ⟨g + 1, 0, none⟩ ⟨g + 2, 0, none⟩ (sv Q1) (sv Q2) rfl rfl (run_load_pairC _ _ _ HAR.out.1 hohc69.at_) (run_load_pairC _ _ _ HAR.out.2.1 hnhc70.at_)) rfl ?_
              exact ⟨.inl ⟨rfl, HFIN.out HX7.out.2.1 HS1.out hs3 hs4⟩, hfin⟩
            · skip
              go_wp2
              exact ⟨rfl, .inr ⟨u, rfl, hu⟩, by rw [← HG.out]; exact (by rw [HG.out]; exact below_on BW8.out (Nat.le_of_eq HG.out.symm) hBhc56)⟩
          · skip
            go_wp2
            exact ⟨rfl, .inr ⟨u, rfl, hu⟩, by rw [← HG.out]; exact (by rw [HG.out]; exact below_on BW8.out (Nat.le_of_eq HG.out.symm) hBhc49)⟩
      · skip
        rw [if_pos (by rfl)]
        refine step_load_pairC (.tmp 7) (by rfl) (g := g + 2) (by rfl) T2 HAR.out.2.2.2.1 hnhc4 ?_
        refine hK.out _ _ (But.of_below hShc1) (fun _ => ?_)
        clear hK K
        try simp only [Act.put, List.setIfInBounds_toArray, List.set_cons_zero, List.set_cons_succ]
        refine wpAnyH_ready (rs := [7]) (by kernel_rfl) (by simp) ?_
        refine' (AllReadyH.cons (o := _) ?hihc71 (fun K hK => ?_) AllReadyH.nil)
        case hihc71 => (simp only [List.getElem?_toArray, List.getElem?_cons_zero, List.getElem?_cons_succ]; rfl)
        rw [if_pos (by rfl)]
        refine step_load_pairC (.tmp 6) (by rfl) (g := g + 1) (by rfl) T1 HAR.out.2.2.1 hohc3 ?_
        refine hK.out _ _ (But.of_below hShc1) (fun _ => ?_)
        clear hK K
        try simp only [Act.put, List.setIfInBounds_toArray, List.set_cons_zero, List.set_cons_succ]
        refine wpAnyH_ready (rs := [8]) (by kernel_rfl) (by simp) ?_
        refine' (AllReadyH.cons (o := _) ?hihc72 (fun K hK => ?_) AllReadyH.nil)
        case hihc72 => (simp only [List.getElem?_toArray, List.getElem?_cons_zero, List.getElem?_cons_succ]; rfl)
        go_simp
        go_at_call 67
        refine (C3.out Whc2 (by rw [HG.out]; exact below_on BW8.out (Nat.le_of_eq HG.out.symm) hShc1)).mono ?_
        rintro e Whc75 ⟨hThc76, hbhc73⟩
        have hBhc74 := below_on hShc1 (Nat.le_refl _) hbhc73
        rcases hThc76 with ⟨rfl, hs3⟩ | ⟨u, rfl, hu⟩
        · skip
          have hohc77 := hohc3.below hbhc73
          have hnhc78 := hnhc4.below hbhc73
          refine hK.out _ _ (But.of_below hBhc74) (fun _ => ?_)
          clear hK K
          try simp only [Act.put, List.setIfInBounds_toArray, List.set_cons_zero, List.set_cons_succ]
          refine wpAnyH_ready (rs := [17]) (by kernel_rfl) (by simp) ?_
          refine' (AllReadyH.cons (o := _) ?hihc79 (fun K hK => ?_) AllReadyH.nil)
          case hihc79 => (simp only [List.getElem?_toArray, List.getElem?_cons_zero, List.getElem?_cons_succ]; rfl)
          go_simp
          go_at_call 67
          refine (C4.out Whc75 (by rw [HG.out]; exact below_on BW8.out (Nat.le_of_eq HG.out.symm) hBhc74)).mono ?_
          rintro e Whc82 ⟨hThc83, hbhc80⟩
          have hBhc81 := below_on hBhc74 (Nat.le_refl _) hbhc80
          rcases hThc83 with ⟨rfl, hs4⟩ | ⟨u, rfl, hu⟩
          · skip
            have hohc84 := hohc77.below hbhc80
            have hnhc85 := hnhc78.below hbhc80
            refine hK.out _ _ (But.of_below hBhc81) (fun _ => ?_)
            clear hK K
            try simp only [Act.put, List.setIfInBounds_toArray, List.set_cons_zero, List.set_cons_succ]
            refine wpAnyH_ready (rs := [18]) (by kernel_rfl) (by simp) ?_
            refine' (AllReadyH.cons (o := _) ?hihc86 (fun K hK => ?_) AllReadyH.nil)
            case hihc86 => (simp only [List.getElem?_toArray, List.getElem?_cons_zero, List.getElem?_cons_succ]; rfl)
            rw [if_pos (by rfl)]
            refine step_store_pairC (.tmp 6) (.tmp 103) rfl (g + 1) rfl T1 Q1 HAR.out.2.2.1 HAR.out.1 hohc84 rfl ?_
            have hBhc87 := but_setRow (S := (fun x => x = g + 1 ∨ x = g + 2)) (But.of_below hBhc81) (.inl rfl) (bvs Q1).toArray
            have hohc89 := hohc84.setRow Q1
            have hnhc90 := hnhc85.setRow_other (g + 1) (by omega) (bvs Q1).toArray
            refine hK.out _ _ hBhc87 (fun _ => ?_)
            clear hK K
            try simp only [Act.put]
            generalize Whc82.setRow (g + 1) (bvs Q1).toArray = Whc88 at hBhc87 hohc89 hnhc90 ⊢
            refine wpAnyH_ready (rs := [19]) (by kernel_rfl) (by simp) ?_
            refine' (AllReadyH.cons (o := _) ?hihc91 (fun K hK => ?_) AllReadyH.nil)
            case hihc91 => (simp only [List.getElem?_toArray, List.getElem?_cons_zero, List.getElem?_cons_succ]; rfl)
            rw [if_pos (by rfl)]
            refine step_store_pairC (.tmp 7) (.tmp 112) rfl (g + 2) rfl T2 Q2 HAR.out.2.2.2.1 HAR.out.2.1 hnhc90 rfl ?_
            have hBhc92 := but_setRow (S := (fun x => x = g + 1 ∨ x = g + 2)) hBhc87 (.inr rfl) (bvs Q2).toArray
            have hohc94 := hohc89.setRow_other (g + 2) (by omega) (bvs Q2).toArray
            have hnhc95 := hnhc90.setRow Q2
            refine hK.out _ _ hBhc92 (fun _ => ?_)
            clear hK K
            try simp only [Act.put]
            generalize Whc88.setRow (g + 2) (bvs Q2).toArray = Whc93 at hBhc92 hohc94 hnhc95 ⊢
            refine wpAnyH_done (by kernel_rfl) ?_ _
            go_wp2_with fail
            have hfin : Below g w Whc93 := below_of_but hBhc92 BW8.out two_ge (by have := HZ.out.size; have := Below.size B7.out; have := B8.out.size; omega)
            refine bodyPost_ret_by (results_cell_cell (p := 6) (q := 7) (ty := 63) (ty2 := 63) (by kernel_rfl) _ _ ⟨g + 1, 0, none⟩ ⟨g + 2, 0, none⟩ (sv Q1) (sv Q2) rfl rfl (run_load_pairC _ _ _ HAR.out.1 hohc94.at_) (run_load_pairC _ _ _ HAR.out.2.1 hnhc95.at_)) rfl ?_
            exact ⟨.inl ⟨rfl, HFIN.out HX7.out.2.1 HS1.out hs3 hs4⟩, hfin⟩
          · skip
            go_wp2
            exact ⟨rfl, .inr ⟨u, rfl, hu⟩, by rw [← HG.out]; exact (by rw [HG.out]; exact below_on BW8.out (Nat.le_of_eq HG.out.symm) hBhc81)⟩
        · skip
          go_wp2
          exact ⟨rfl, .inr ⟨u, rfl, hu⟩, by rw [← HG.out]; exact (by rw [HG.out]; exact below_on BW8.out (Nat.le_of_eq HG.out.symm) hBhc74)⟩
    · skip
      go_wp2
      exact ⟨rfl, .inr ⟨u, rfl, hu⟩, by rw [← HG.out]; exact (below_on B0.out (Nat.le_refl _) (below_on B7.out (Nat.le_refl _) hBhb11))⟩
  · have HU := Lib.hid (And.intro hu hb6)
    clear hu hb6
    go_wp2_with fail
    exact ⟨rfl, .inr ⟨u, rfl, HU.out.1⟩, by rw [← HG.out]; exact below_on (below_on B0.out (Nat.le_refl _) H5.out.2.2) (Nat.le_refl _) HU.out.2⟩

set_option maxRecDepth 100000 in
set_option maxHeartbeats 16000000 in
theorem dlink_all (E1 : Ent w (some A) n c R) (E2 : Ent w (some B) n d S) (hI : InS w P q ys) (_ : ∀ x ∈ ys, x < 256) (_ : q ≤ r) (hq : q = ldep n n edge) (h1m : 1 ≤ n) (hn6 : n ≤ 60000) (la : a.length = 32) (_ : ∀ x ∈ a, x < 256) (hae : edge = true → a = rtl R) (hk : Knows w) (hks : Starts w) :
    Calls Tryd.prog 39 #[.agg #[.slice (some A) n c, .slice (some B) n d], .slice P q r, .bool edge] w fun e w' => Told w.heap.size (.tuple #[sv (rtl R ++ (linkF (nth ys) a n n edge 0).1), sv (rtl S ++ (linkF (nth ys) a n n edge 0).2)]) (rtl R = (linkF (nth ys) a n n edge 0).1 → rtl S = (linkF (nth ys) a n n edge 0).2 → R = S.take n) e w' ∧ Below w.heap.size w w' := by
  obtain ⟨g, hg⟩ : ∃ g, w.heap.size = g := ⟨_, rfl⟩
  have hz := DLIn.mk_ w g (.slice (some A) n c) (.slice (some B) n d) hg
  have e0 : (bvs zero64).toArray = #[.int .u8 0, .int .u8 0, .int .u8 0, .int .u8 0, .int .u8 0, .int .u8 0, .int .u8 0, .int .u8 0, .int .u8 0, .int .u8 0, .int .u8 0, .int .u8 0, .int .u8 0, .int .u8 0, .int .u8 0, .int .u8 0, .int .u8 0, .int .u8 0, .int .u8 0, .int .u8 0, .int .u8 0, .int .u8 0, .int .u8 0, .int .u8 0, .int .u8 0, .int .u8 0, .int .u8 0, .int .u8 0, .int .u8 0, .int .u8 0, .int .u8 0, .int .u8 0, .int .u8 0, .int .u8 0, .int .u8 0, .int .u8 0, .int .u8 0, .int .u8 0, .int .u8 0, .int .u8 0, .int .u8 0, .int .u8 0, .int .u8 0, .int .u8 0, .int .u8 0, .int .u8 0, .int .u8 0, .int .u8 0, .int .u8 0, .int .u8 0, .int .u8 0, .int .u8 0, .int .u8 0, .int .u8 0, .int .u8 0, .int .u8 0, .int .u8 0, .int .u8 0, .int .u8 0, .int .u8 0, .int .u8 0, .int .u8 0, .int .u8 0, .int .u8 0] := rfl
  rw [e0] at hz
  obtain ⟨wz, hwz⟩ : ∃ x, x = ((w.alloc (.cells #[.slice (some A) n c, .slice (some B) n d] 66)).alloc (.cells #[.int .u8 0, .int .u8 0, .int .u8 0, .int .u8 0, .int .u8 0, .int .u8 0, .int .u8 0, .int .u8 0, .int .u8 0, .int .u8 0, .int .u8 0, .int .u8 0, .int .u8 0, .int .u8 0, .int .u8 0, .int .u8 0, .int .u8 0, .int .u8 0, .int .u8 0, .int .u8 0, .int .u8 0, .int .u8 0, .int .u8 0, .int .u8 0, .int .u8 0, .int .u8 0, .int .u8 0, .int .u8 0, .int .u8 0, .int .u8 0, .int .u8 0, .int .u8 0, .int .u8 0, .int .u8 0, .int .u8 0, .int .u8 0, .int .u8 0, .int .u8 0, .int .u8 0, .int .u8 0, .int .u8 0, .int .u8 0, .int .u8 0, .int .u8 0, .int .u8 0, .int .u8 0, .int .u8 0, .int .u8 0, .int .u8 0, .int .u8 0, .int .u8 0, .int .u8 0, .int .u8 0, .int .u8 0, .int .u8 0, .int .u8 0, .int .u8 0, .int .u8 0, .int .u8 0, .int .u8 0, .int .u8 0, .int .u8 0, .int .u8 0, .int .u8 0] 63)).alloc (.cells #[.int .u8 0, .int .u8 0, .int .u8 0, .int .u8 0, .int .u8 0, .int .u8 0, .int .u8 0, .int .u8 0, .int .u8 0, .int .u8 0, .int .u8 0, .int .u8 0, .int .u8 0, .int .u8 0, .int .u8 0, .int .u8 0, .int .u8 0, .int .u8 0, .int .u8 0, .int .u8 0, .int .u8 0, .int .u8 0, .int .u8 0, .int .u8 0, .int .u8 0, .int .u8 0, .int .u8 0, .int .u8 0, .int .u8 0, .int .u8 0, .int .u8 0, .int .u8 0, .int .u8 0, .int .u8 0, .int .u8 0, .int .u8 0, .int .u8 0, .int .u8 0, .int .u8 0, .int .u8 0, .int .u8 0, .int .u8 0, .int .u8 0, .int .u8 0, .int .u8 0, .int .u8 0, .int .u8 0, .int .u8 0, .int .u8 0, .int .u8 0, .int .u8 0, .int .u8 0, .int .u8 0, .int .u8 0, .int .u8 0, .int .u8 0, .int .u8 0, .int .u8 0, .int .u8 0, .int .u8 0, .int .u8 0, .int .u8 0, .int .u8 0, .int .u8 0] 63) := ⟨_, rfl⟩
  rw [← hwz] at hz
  have HW := Lib.hid hwz
  have HG := Lib.hid hg
  have HZ := Lib.hid hz
  have b0z : Below w.heap.size w wz := by rw [hg]; exact hz.below
  have B0 := Lib.hid b0z
  have HC0 := Lib.hid (fun (W : World) (hW : Below wz.heap.size wz W) => show W.cell? ⟨g, 0, none⟩ = some (.slice (some A) n c) from (hz.both.below hW).cell 0 rfl)
  have HC1 := Lib.hid (fun (W : World) (hW : Below wz.heap.size wz W) => show W.cell? ⟨g, 1, none⟩ = some (.slice (some B) n d) from (hz.both.below hW).cell 1 rfl)
  have hlf := linkF_all (nth ys) a (m := n) (n := n) (.inr rfl) edge 0
  have hld := hq.trans (ldep_all (m := n) (n := n) (.inr rfl) edge)
  obtain ⟨s, hs⟩ : ∃ s, (if edge then a else nth ys 0) = s := ⟨_, rfl⟩
  have e1 : (linkF (nth ys) a n n edge 0).1 = s := by rw [hlf, ← hs]; cases edge <;> rfl
  have e2 : (linkF (nth ys) a n n edge 0).2 = s := by rw [hlf, ← hs]; cases edge <;> rfl
  have sl : s.length = 32 := by
    rw [← hs]
    cases edge with
    | true => exact la
    | false => exact nth_length hI.len (by rw [hld]; decide)
  have hat : edge = false → ∃ pd, P = some pd ∧ 1 ≤ q ∧ At w (pd.add (0 * 32)) s := fun he => by
    subst he
    have hq1 : q = 1 := hld
    obtain ⟨pd, rfl⟩ := hI.some_ (by omega)
    obtain ⟨pd', epd, _, h⟩ := hI.at_ (k := 0) (by omega)
    cases epd
    exact ⟨pd, rfl, by omega, by rw [← hs]; exact h⟩
  have hrr : edge = true → s = rtl R := fun he => by rw [← hs, he]; exact hae he
  have CD := Lib.hid (fun (W : World) (hW : Below w.heap.size w W) => show Calls Tryd.prog 59 #[.agg #[.slice (some A) n c, .slice (some B) n d]] W fun e w' => Told g (sv (rtl R ++ rtl S)) (rtl R = rtl S → R = S) e w' ∧ Below W.heap.size W w' from
    (down_any n W A B c d R S (E1.below hW) (E2.below hW) (hk.below hW) (hks.below hW) h1m hn6).mono fun e w' ⟨h, hb'⟩ => ⟨h.low (by have := hW.size; omega), hb'⟩)
  have HFIN := Lib.hid (show (rtl R = rtl S → R = S) → (rtl R = s → rtl S = s → R = S.take n) from fun h x y => by rw [List.take_of_length_le (Nat.le_of_eq E2.len)]; exact h (x.trans y.symm))
  obtain ⟨r1, hr1⟩ : ∃ x, rtl R = x := ⟨_, rfl⟩
  obtain ⟨s1, hs1'⟩ : ∃ x, rtl S = x := ⟨_, rfl⟩
  have r1l : r1.length = 32 := by rw [← hr1]; exact rtl_length _
  have s1l : s1.length = 32 := by rw [← hs1']; exact rtl_length _
  rw [hr1, hs1'] at CD HFIN
  rw [hr1] at hrr
  obtain ⟨P1, hP1⟩ : ∃ x, r1 ++ s1 = x := ⟨_, rfl⟩
  have P1l : P1.length = 64 := by rw [← hP1, List.length_append, r1l, s1l]
  obtain ⟨Q1, hQ1⟩ : ∃ x, r1 ++ s = x := ⟨_, rfl⟩
  obtain ⟨Q2, hQ2⟩ : ∃ x, s1 ++ s = x := ⟨_, rfl⟩
  have Q1l : Q1.length = 64 := by rw [← hQ1, List.length_append, r1l, sl]
  have Q2l : Q2.length = 64 := by rw [← hQ2, List.length_append, s1l, sl]
  rw [hP1] at CD
  have HQ := Lib.hid (And.intro hQ1 (And.intro hQ2 hP1))
  have HAR := Lib.hid (And.intro Q1l (And.intro Q2l (And.intro r1l (And.intro s1l (And.intro sl P1l)))))
  have HAT := Lib.hid hat
  have HRR := Lib.hid hrr
  have hnn : ((n : Int) == (n : Int)) = true := by simp
  rw [hg, e1, e2, hr1, hs1', hQ1, hQ2]
  clear hz e0 hwz hg hk hks E1 E2 b0z hI hq hlf hld hs e1 e2 hat hrr hr1 hs1' hP1 hQ1 hQ2 la hae Q1l Q2l sl
  go_enter Tryd.func39, Tryd.ntmps39
  go_upto_region 1 with fail
  rw [← HW.out]
  rw [HG.out]
  have hSaa1 : Below wz.heap.size wz wz.drew := (Below.refl _ _).drew
  refine wp_region_held_drew (S := fun W => Below wz.heap.size wz W) (by kernel_rfl) (hSaa1) (fun _ => ?_)
  change wpAnyH _ _ _ _ _ _ _ _ wz.drew
  generalize wz.drew = Waa2 at hSaa1 ⊢
  refine' wpAnyH_take (i := 0) (oi := _) (v := _) ?hiaa3 (by kernel_rfl) ?hfaa3 ?hraa3 ?hQaa3 ?hyaa3 (hSaa1) ?restaa3
  case hiaa3 => (simp only [List.getElem?_toArray, List.getElem?_cons_zero]; rfl)
  case hfaa3 => kernel_rfl
  case hraa3 => kernel_rfl
  case hQaa3 => exact fun _ _ _ h => h
  case hyaa3 => refine Or.inl ⟨by rfl, ?_⟩; intro W hSw; go_simp; try with_reducible rfl
  try simp only [Act.put, List.setIfInBounds_toArray, List.set_cons_zero, List.set_cons_succ]
  refine' wpAnyH_take (i := 1) (oi := _) (v := _) ?hiaa4 (by kernel_rfl) ?hfaa4 ?hraa4 ?hQaa4 ?hyaa4 (hSaa1) ?restaa4
  case hiaa4 => (simp only [List.getElem?_toArray, List.getElem?_cons_zero, List.getElem?_cons_succ]; rfl)
  case hfaa4 => kernel_rfl
  case hraa4 => kernel_rfl
  case hQaa4 => exact fun _ _ _ h => h
  case hyaa4 => refine Or.inl ⟨by rfl, ?_⟩; intro W hSw; have hcc := HC0.out W hSw; go_simp; try with_reducible rfl
  try simp only [Act.put, List.setIfInBounds_toArray, List.set_cons_zero, List.set_cons_succ]
  refine' wpAnyH_take (i := 2) (oi := _) (v := _) ?hiaa5 (by kernel_rfl) ?hfaa5 ?hraa5 ?hQaa5 ?hyaa5 (hSaa1) ?restaa5
  case hiaa5 => (simp only [List.getElem?_toArray, List.getElem?_cons_zero, List.getElem?_cons_succ]; rfl)
  case hfaa5 => kernel_rfl
  case hraa5 => kernel_rfl
  case hQaa5 => exact fun _ _ _ h => h
  case hyaa5 => refine Or.inl ⟨by rfl, ?_⟩; intro W hSw; go_simp; try with_reducible rfl
  try simp only [Act.put, List.setIfInBounds_toArray, List.set_cons_zero, List.set_cons_succ]
  refine' wpAnyH_take (i := 3) (oi := _) (v := _) ?hiaa6 (by kernel_rfl) ?hfaa6 ?hraa6 ?hQaa6 ?hyaa6 (hSaa1) ?restaa6
  case hiaa6 => (simp only [List.getElem?_toArray, List.getElem?_cons_zero, List.getElem?_cons_succ]; rfl)
  case hfaa6 => kernel_rfl
  case hraa6 => kernel_rfl
  case hQaa6 => exact fun _ _ _ h => h
  case hyaa6 => refine Or.inl ⟨by rfl, ?_⟩; intro W hSw; go_simp; try with_reducible rfl
  try simp only [Act.put, List.setIfInBounds_toArray, List.set_cons_zero, List.set_cons_succ]
  refine' wpAnyH_take (i := 4) (oi := _) (v := _) ?hiaa7 (by kernel_rfl) ?hfaa7 ?hraa7 ?hQaa7 ?hyaa7 (hSaa1) ?restaa7
  case hiaa7 => (simp only [List.getElem?_toArray, List.getElem?_cons_zero, List.getElem?_cons_succ]; rfl)
  case hfaa7 => kernel_rfl
  case hraa7 => kernel_rfl
  case hQaa7 => exact fun _ _ _ h => h
  case hyaa7 => refine Or.inl ⟨by rfl, ?_⟩; intro W hSw; have hcc := HC1.out W hSw; go_simp; try with_reducible rfl
  try simp only [Act.put, List.setIfInBounds_toArray, List.set_cons_zero, List.set_cons_succ]
  refine' wpAnyH_take (i := 5) (oi := _) (v := _) ?hiaa8 (by kernel_rfl) ?hfaa8 ?hraa8 ?hQaa8 ?hyaa8 (hSaa1) ?restaa8
  case hiaa8 => (simp only [List.getElem?_toArray, List.getElem?_cons_zero, List.getElem?_cons_succ]; rfl)
  case hfaa8 => kernel_rfl
  case hraa8 => kernel_rfl
  case hQaa8 => exact fun _ _ _ h => h
  case hyaa8 => refine Or.inl ⟨by rfl, ?_⟩; intro W hSw; go_simp; try with_reducible rfl
  try simp only [Act.put, List.setIfInBounds_toArray, List.set_cons_zero, List.set_cons_succ]
  refine' wpAnyH_take (i := 6) (oi := _) (v := _) ?hiaa9 (by kernel_rfl) ?hfaa9 ?hraa9 ?hQaa9 ?hyaa9 (hSaa1) ?restaa9
  case hiaa9 => (simp only [List.getElem?_toArray, List.getElem?_cons_zero, List.getElem?_cons_succ]; rfl)
  case hfaa9 => kernel_rfl
  case hraa9 => kernel_rfl
  case hQaa9 => exact fun _ _ _ h => h
  case hyaa9 => refine Or.inl ⟨by rfl, ?_⟩; intro W hSw; go_simp; try with_reducible rfl
  try simp only [Act.put, List.setIfInBounds_toArray, List.set_cons_zero, List.set_cons_succ]
  refine' wpAnyH_take (i := 7) (oi := _) (v := _) ?hiaa10 (by kernel_rfl) ?hfaa10 ?hraa10 ?hQaa10 ?hyaa10 (hSaa1) ?restaa10
  case hiaa10 => (simp only [List.getElem?_toArray, List.getElem?_cons_zero, List.getElem?_cons_succ]; rfl)
  case hfaa10 => kernel_rfl
  case hraa10 => kernel_rfl
  case hQaa10 => exact fun _ _ _ h => h
  case hyaa10 => refine Or.inl ⟨by rfl, ?_⟩; intro W hSw; go_simp; try with_reducible rfl
  try simp only [Act.put, List.setIfInBounds_toArray, List.set_cons_zero, List.set_cons_succ]
  refine wpAnyH_done (by kernel_rfl) ?_ _
  have B1 := Lib.hid hSaa1
  clear hSaa1
  go_upto_region 3 with fail
  have hx0 := HC0.out _ B1.out
  have hx1 := HC1.out _ B1.out
  go_wp2_with fail
  clear hx0 hx1
  refine (CD.out Waa2 (below_on B0.out (Nat.le_refl _) B1.out)).mono ?_
  rintro e w6 ⟨hT, hb6⟩
  rcases hT with ⟨rfl, hsame⟩ | ⟨u, rfl, hu⟩
  · obtain ⟨w7, hw7⟩ : ∃ x, x = w6.alloc (.cells (bvs P1).toArray 63) := ⟨_, rfl⟩
    have b67 : Below Waa2.heap.size Waa2 w7 := by rw [hw7]; exact below_on hb6 (Nat.le_refl _) (below_alloc _ _)
    have f7 : BArr w7 w6.heap.size 63 P1 := by rw [hw7]; exact BArr.new _ _ _
    have HW7 := Lib.hid hw7
    have B7 := Lib.hid (below_on B1.out (Nat.le_refl _) b67)
    have HX7 := Lib.hid (And.intro hsame (show wz.heap.size ≤ w6.heap.size by have := Below.size B1.out; have := hb6.size; omega))
    have s7 : w7.heap.size = w6.heap.size + 1 := by rw [hw7]; simp
    clear hw7 b67 hb6 hsame
    go_upto_region 4 with ((with_reducible refine wpList_store_newPC w6 _ ?_ rfl (.tmp 10) (.tmp 27) rfl rfl P1 P1l rfl ?_); · simp)
    rw [← HW7.out]
    generalize w6.heap.size = p at f7 HX7 s7 ⊢
    obtain ⟨w8, hw8⟩ : ∃ x, x = w7.alloc (.cells (bvs r1).toArray 36) := ⟨_, rfl⟩
    have f8 : BArr w8 w7.heap.size 36 r1 := by rw [hw8]; exact BArr.new _ _ _
    have b78 : Below w7.heap.size w7 w8 := by rw [hw8]; exact below_alloc _ _
    have g8 := f7.below b78
    have HA7 := Lib.hid (show At w7 ⟨p, 0, none⟩ r1 from by have h := f7; rw [← HQ.out.2.2] at h; exact at_fst h)
    have HW8 := Lib.hid hw8
    have B8 := Lib.hid (below_on B7.out (Nat.le_refl _) b78)
    clear hw8 b78 f7 HW7
    have HS7 := Lib.hid s7
    clear s7
    rw [HS7.out] at f8
    go_upto_region 5 with (first
      | (with_reducible refine wpList_load_sum rfl (.tmp 28) rfl ⟨p, 0, none⟩ rfl r1 r1l HA7.out ?_)
      | (with_reducible refine wpList_store_new w7 _ (by simp) rfl (.tmp 11) (.tmp 29) rfl rfl r1 r1l rfl ?_; rw [← HW8.out]))
    rw [HS7.out]
    have H8 := Lib.hid (And.intro f8 g8)
    clear f8 g8 HW8
    cases edge with
    | true =>
      have er : s = r1 := HRR.out rfl
      subst er
      go_upto_region 7 with fail
      have H9 := Lib.hid (And.intro H8.out.1 (And.intro H8.out.2 B8.out))
      have hp1 : ¬ (p = g + 1 ∨ p = g + 2) := by have := HZ.out.size; have := HX7.out.2; omega
      have hp2 : ¬ (p + 1 = g + 1 ∨ p + 1 = g + 2) := by have := HZ.out.size; have := HX7.out.2; omega
      have HP9 := Lib.hid (fun (W : World) (hW : But (fun x => x = g + 1 ∨ x = g + 2) w8 W) => show At W ⟨p, 0, none⟩ s ∧ At W ⟨p, 32, none⟩ s1 ∧ At W ⟨p + 1, 0, none⟩ s from by
        have h := but_barr hW H9.out.2.1 hp1
        rw [← HQ.out.2.2] at h
        exact ⟨at_fst h, at_snd h HAR.out.2.2.1, (but_barr hW H9.out.1 hp2).at_⟩)
      have BW9 := Lib.hid (show Below g w w8 from below_on HZ.out.below (Nat.le_of_eq HG.out.symm) H9.out.2.2)
      clear hp1 hp2
      have hSat1 : Below w8.heap.size w8 w8.drew := (Below.refl _ _).drew
      have hoat3 := (HZ.out.old.below H9.out.2.2).below hSat1
      have hnat4 := (HZ.out.grown.below H9.out.2.2).below hSat1
      refine wp_region_held_drew (S := fun W => But (fun x => x = g + 1 ∨ x = g + 2) w8 W) (by kernel_rfl) (But.of_below hSat1) (fun _ => ?_)
      change wpAnyH _ _ _ _ _ _ _ _ w8.drew
      generalize w8.drew = Wat2 at hSat1 hoat3 hnat4 ⊢
      refine' wpAnyH_take (i := 0) (oi := _) (v := _) ?hiat5 (by kernel_rfl) ?hfat5 ?hrat5 ?hQat5 ?hyat5 (But.of_below hSat1) ?restat5
      case hiat5 => (simp only [List.getElem?_toArray, List.getElem?_cons_zero]; rfl)
      case hfat5 => kernel_rfl
      case hrat5 => kernel_rfl
      case hQat5 => exact fun _ _ _ h => h
      case hyat5 => refine Or.inl ⟨by rfl, ?_⟩; intro W hSw; go_simp; try with_reducible rfl
      try simp only [Act.put, List.setIfInBounds_toArray, List.set_cons_zero, List.set_cons_succ]
      refine' wpAnyH_take (i := 1) (oi := _) (v := sv s) ?hiat6 (by kernel_rfl) ?hfat6 ?hrat6 ?hQat6 ?hyat6 (But.of_below hSat1) ?restat6
      case hiat6 => (simp only [List.getElem?_toArray, List.getElem?_cons_zero, List.getElem?_cons_succ]; rfl)
      case hfat6 => kernel_rfl
      case hrat6 => kernel_rfl
      case hQat6 => exact fun _ _ _ h => h
      case hyat6 => refine Or.inl ⟨by rfl, ?_⟩; intro W hSw; exact load_sum_op (.tmp 35) (by rfl) (by rfl) HAR.out.2.2.1 (HP9.out W hSw).1
      try simp only [Act.put, List.setIfInBounds_toArray, List.set_cons_zero, List.set_cons_succ]
      refine' wpAnyH_take (i := 2) (oi := _) (v := sv s) ?hiat7 (by kernel_rfl) ?hfat7 ?hrat7 ?hQat7 ?hyat7 (But.of_below hSat1) ?restat7
      case hiat7 => (simp only [List.getElem?_toArray, List.getElem?_cons_zero, List.getElem?_cons_succ]; rfl)
      case hfat7 => kernel_rfl
      case hrat7 => kernel_rfl
      case hQat7 => exact fun _ _ _ h => h
      case hyat7 => refine Or.inl ⟨by rfl, ?_⟩; intro W hSw; exact load_sum_op (.tmp 11) (by rfl) (by rfl) HAR.out.2.2.2.2.1 (HP9.out W hSw).2.2
      try simp only [Act.put, List.setIfInBounds_toArray, List.set_cons_zero, List.set_cons_succ]
      refine' wpAnyH_take (i := 3) (oi := _) (v := sv Q1) ?hiat8 (by kernel_rfl) ?hfat8 ?hrat8 ?hQat8 ?hyat8 (But.of_below hSat1) ?restat8
      case hiat8 => (simp only [List.getElem?_toArray, List.getElem?_cons_zero, List.getElem?_cons_succ]; rfl)
      case hfat8 => kernel_rfl
      case hrat8 => kernel_rfl
      case hQat8 => exact fun _ _ _ h => h
      case hyat8 => have hpq := HQ.out.1; subst hpq; exact yields_build_pairC (by rfl) (.tmp 36) (.tmp 37) (by rfl) s s (by rfl) (by rfl) HAR.out.2.2.1 HAR.out.2.2.2.2.1
      try simp only [Act.put, List.setIfInBounds_toArray, List.set_cons_zero, List.set_cons_succ]
      refine' wpAnyH_take (i := 4) (oi := _) (v := _) ?hiat9 (by kernel_rfl) ?hfat9 ?hrat9 ?hQat9 ?hyat9 (But.of_below hSat1) ?restat9
      case hiat9 => (simp only [List.getElem?_toArray, List.getElem?_cons_zero, List.getElem?_cons_succ]; rfl)
      case hfat9 => kernel_rfl
      case hrat9 => kernel_rfl
      case hQat9 => exact fun _ _ _ h => h
      case hyat9 => refine Or.inl ⟨by rfl, ?_⟩; intro W hSw; go_simp; try with_reducible rfl
      try simp only [Act.put, List.setIfInBounds_toArray, List.set_cons_zero, List.set_cons_succ]
      refine' wpAnyH_take (i := 5) (oi := _) (v := sv s1) ?hiat10 (by kernel_rfl) ?hfat10 ?hrat10 ?hQat10 ?hyat10 (But.of_below hSat1) ?restat10
      case hiat10 => (simp only [List.getElem?_toArray, List.getElem?_cons_zero, List.getElem?_cons_succ]; rfl)
      case hfat10 => kernel_rfl
      case hrat10 => kernel_rfl
      case hQat10 => exact fun _ _ _ h => h
      case hyat10 => refine Or.inl ⟨by rfl, ?_⟩; intro W hSw; exact load_sum_op (.tmp 39) (by rfl) (by rfl) HAR.out.2.2.2.1 (HP9.out W hSw).2.1
      try simp only [Act.put, List.setIfInBounds_toArray, List.set_cons_zero, List.set_cons_succ]
      refine' wpAnyH_take (i := 6) (oi := _) (v := sv s) ?hiat11 (by kernel_rfl) ?hfat11 ?hrat11 ?hQat11 ?hyat11 (But.of_below hSat1) ?restat11
      case hiat11 => (simp only [List.getElem?_toArray, List.getElem?_cons_zero, List.getElem?_cons_succ]; rfl)
      case hfat11 => kernel_rfl
      case hrat11 => kernel_rfl
      case hQat11 => exact fun _ _ _ h => h
      case hyat11 => refine Or.inl ⟨by rfl, ?_⟩; intro W hSw; exact load_sum_op (.tmp 11) (by rfl) (by rfl) HAR.out.2.2.2.2.1 (HP9.out W hSw).2.2
      try simp only [Act.put, List.setIfInBounds_toArray, List.set_cons_zero, List.set_cons_succ]
      refine' wpAnyH_take (i := 7) (oi := _) (v := sv Q2) ?hiat12 (by kernel_rfl) ?hfat12 ?hrat12 ?hQat12 ?hyat12 (But.of_below hSat1) ?restat12
      case hiat12 => (simp only [List.getElem?_toArray, List.getElem?_cons_zero, List.getElem?_cons_succ]; rfl)
      case hfat12 => kernel_rfl
      case hrat12 => kernel_rfl
      case hQat12 => exact fun _ _ _ h => h
      case hyat12 => have hpq := HQ.out.2.1; subst hpq; exact yields_build_pairC (by rfl) (.tmp 40) (.tmp 41) (by rfl) s1 s (by rfl) (by rfl) HAR.out.2.2.2.1 HAR.out.2.2.2.2.1
      try simp only [Act.put, List.setIfInBounds_toArray, List.set_cons_zero, List.set_cons_succ]
      refine wpAnyH_ready (rs := [8]) (by kernel_rfl) (by simp) ?_
      refine' (AllReadyH.cons (o := _) ?hiat13 (fun K hK => ?_) AllReadyH.nil)
      case hiat13 => (simp only [List.getElem?_toArray, List.getElem?_cons_zero, List.getElem?_cons_succ]; rfl)
      rw [if_pos (by rfl)]
      refine step_store_pairC (.tmp 6) (.tmp 38) rfl (g + 1) rfl zero64 Q1 (by rfl) HAR.out.1 hoat3 rfl ?_
      have hBat14 := but_setRow (S := (fun x => x = g + 1 ∨ x = g + 2)) (But.of_below hSat1) (.inl rfl) (bvs Q1).toArray
      have hoat16 := hoat3.setRow Q1
      have hnat17 := hnat4.setRow_other (g + 1) (by omega) (bvs Q1).toArray
      refine hK.out _ _ hBat14 (fun _ => ?_)
      clear hK K
      try simp only [Act.put]
      generalize Wat2.setRow (g + 1) (bvs Q1).toArray = Wat15 at hBat14 hoat16 hnat17 ⊢
      refine wpAnyH_ready (rs := [9]) (by kernel_rfl) (by simp) ?_
      refine' (AllReadyH.cons (o := _) ?hiat18 (fun K hK => ?_) AllReadyH.nil)
      case hiat18 => (simp only [List.getElem?_toArray, List.getElem?_cons_zero, List.getElem?_cons_succ]; rfl)
      rw [if_pos (by rfl)]
      refine step_store_pairC (.tmp 7) (.tmp 42) rfl (g + 2) rfl zero64 Q2 (by rfl) HAR.out.2.1 hnat17 rfl ?_
      have hBat19 := but_setRow (S := (fun x => x = g + 1 ∨ x = g + 2)) hBat14 (.inr rfl) (bvs Q2).toArray
      have hoat21 := hoat16.setRow_other (g + 2) (by omega) (bvs Q2).toArray
      have hnat22 := hnat17.setRow Q2
      refine hK.out _ _ hBat19 (fun _ => ?_)
      clear hK K
      try simp only [Act.put]
      generalize Wat15.setRow (g + 2) (bvs Q2).toArray = Wat20 at hBat19 hoat21 hnat22 ⊢
      refine wpAnyH_done (by kernel_rfl) ?_ _
      go_wp2_with fail
      have hfin : Below g w Wat20 := below_of_but hBat19 BW9.out two_ge (by have := HZ.out.size; have := Below.size H9.out.2.2; omega)
      refine bodyPost_ret_by (results_cell_cell (p := 6) (q := 7) (ty := 63) (ty2 := 63) (by kernel_rfl) _ _ ⟨g + 1, 0, none⟩ ⟨g + 2, 0, none⟩ (sv Q1) (sv Q2) rfl rfl (run_load_pairC _ _ _ HAR.out.1 hoat21.at_) (run_load_pairC _ _ _ HAR.out.2.1 hnat22.at_)) rfl ?_
      exact ⟨.inl ⟨rfl, by first | exact HFIN.out HX7.out.1 | exact HFIN.out HX7.out.1 trivial⟩, hfin⟩
    | false =>
      obtain ⟨pd, rfl, hq1, hat⟩ := HAT.out rfl
      have hatz := (hat.below (B0.out)).below B8.out
      have hq1' : (0 : Int) < (q : Int) := by omega
      have HR1 := Lib.hid r1l
      have sl := HAR.out.2.2.2.2.1
      have hb9 := below_setRow B8.out (show wz.heap.size ≤ p + 1 by have := HX7.out.2; omega) (bvs s).toArray
      have H9 := Lib.hid (And.intro (H8.out.1.setRow s) (And.intro (H8.out.2.setRow_other (p + 1) (by omega) (bvs s).toArray) hb9))
      clear hat hb9
      go_upto_region 7 with (first
        | (refine wpList_load_sum rfl (.tmp 33) rfl (pd.add (0 * 32)) rfl s sl hatz ?_)
        | (with_reducible refine wpList_store_sum rfl (.tmp 11) (.tmp 34) rfl (p + 1) rfl r1 s HR1 sl H8.out.1 rfl ?_))
      clear hatz
      generalize w8.setRow (p + 1) (bvs s).toArray = w9 at H9 ⊢
      have hp1 : ¬ (p = g + 1 ∨ p = g + 2) := by have := HZ.out.size; have := HX7.out.2; omega
      have hp2 : ¬ (p + 1 = g + 1 ∨ p + 1 = g + 2) := by have := HZ.out.size; have := HX7.out.2; omega
      have HP9 := Lib.hid (fun (W : World) (hW : But (fun x => x = g + 1 ∨ x = g + 2) w9 W) => show At W ⟨p, 0, none⟩ r1 ∧ At W ⟨p, 32, none⟩ s1 ∧ At W ⟨p + 1, 0, none⟩ s from by
        have h := but_barr hW H9.out.2.1 hp1
        rw [← HQ.out.2.2] at h
        exact ⟨at_fst h, at_snd h HAR.out.2.2.1, (but_barr hW H9.out.1 hp2).at_⟩)
      have BW9 := Lib.hid (show Below g w w9 from below_on HZ.out.below (Nat.le_of_eq HG.out.symm) H9.out.2.2)
      clear hp1 hp2
      have hSaf1 : Below w9.heap.size w9 w9.drew := (Below.refl _ _).drew
      have hoaf3 := (HZ.out.old.below H9.out.2.2).below hSaf1
      have hnaf4 := (HZ.out.grown.below H9.out.2.2).below hSaf1
      refine wp_region_held_drew (S := fun W => But (fun x => x = g + 1 ∨ x = g + 2) w9 W) (by kernel_rfl) (But.of_below hSaf1) (fun _ => ?_)
      change wpAnyH _ _ _ _ _ _ _ _ w9.drew
      generalize w9.drew = Waf2 at hSaf1 hoaf3 hnaf4 ⊢
      refine' wpAnyH_take (i := 0) (oi := _) (v := _) ?hiaf5 (by kernel_rfl) ?hfaf5 ?hraf5 ?hQaf5 ?hyaf5 (But.of_below hSaf1) ?restaf5
      case hiaf5 => (simp only [List.getElem?_toArray, List.getElem?_cons_zero]; rfl)
      case hfaf5 => kernel_rfl
      case hraf5 => kernel_rfl
      case hQaf5 => exact fun _ _ _ h => h
      case hyaf5 => refine Or.inl ⟨by rfl, ?_⟩; intro W hSw; go_simp; try with_reducible rfl
      try simp only [Act.put, List.setIfInBounds_toArray, List.set_cons_zero, List.set_cons_succ]
      refine' wpAnyH_take (i := 1) (oi := _) (v := sv r1) ?hiaf6 (by kernel_rfl) ?hfaf6 ?hraf6 ?hQaf6 ?hyaf6 (But.of_below hSaf1) ?restaf6
      case hiaf6 => (simp only [List.getElem?_toArray, List.getElem?_cons_zero, List.getElem?_cons_succ]; rfl)
      case hfaf6 => kernel_rfl
      case hraf6 => kernel_rfl
      case hQaf6 => exact fun _ _ _ h => h
      case hyaf6 => refine Or.inl ⟨by rfl, ?_⟩; intro W hSw; exact load_sum_op (.tmp 35) (by rfl) (by rfl) HAR.out.2.2.1 (HP9.out W hSw).1
      try simp only [Act.put, List.setIfInBounds_toArray, List.set_cons_zero, List.set_cons_succ]
      refine' wpAnyH_take (i := 2) (oi := _) (v := sv s) ?hiaf7 (by kernel_rfl) ?hfaf7 ?hraf7 ?hQaf7 ?hyaf7 (But.of_below hSaf1) ?restaf7
      case hiaf7 => (simp only [List.getElem?_toArray, List.getElem?_cons_zero, List.getElem?_cons_succ]; rfl)
      case hfaf7 => kernel_rfl
      case hraf7 => kernel_rfl
      case hQaf7 => exact fun _ _ _ h => h
      case hyaf7 => refine Or.inl ⟨by rfl, ?_⟩; intro W hSw; exact load_sum_op (.tmp 11) (by rfl) (by rfl) HAR.out.2.2.2.2.1 (HP9.out W hSw).2.2
      try simp only [Act.put, List.setIfInBounds_toArray, List.set_cons_zero, List.set_cons_succ]
      refine' wpAnyH_take (i := 3) (oi := _) (v := sv Q1) ?hiaf8 (by kernel_rfl) ?hfaf8 ?hraf8 ?hQaf8 ?hyaf8 (But.of_below hSaf1) ?restaf8
      case hiaf8 => (simp only [List.getElem?_toArray, List.getElem?_cons_zero, List.getElem?_cons_succ]; rfl)
      case hfaf8 => kernel_rfl
      case hraf8 => kernel_rfl
      case hQaf8 => exact fun _ _ _ h => h
      case hyaf8 => have hpq := HQ.out.1; subst hpq; exact yields_build_pairC (by rfl) (.tmp 36) (.tmp 37) (by rfl) r1 s (by rfl) (by rfl) HAR.out.2.2.1 HAR.out.2.2.2.2.1
      try simp only [Act.put, List.setIfInBounds_toArray, List.set_cons_zero, List.set_cons_succ]
      refine' wpAnyH_take (i := 4) (oi := _) (v := _) ?hiaf9 (by kernel_rfl) ?hfaf9 ?hraf9 ?hQaf9 ?hyaf9 (But.of_below hSaf1) ?restaf9
      case hiaf9 => (simp only [List.getElem?_toArray, List.getElem?_cons_zero, List.getElem?_cons_succ]; rfl)
      case hfaf9 => kernel_rfl
      case hraf9 => kernel_rfl
      case hQaf9 => exact fun _ _ _ h => h
      case hyaf9 => refine Or.inl ⟨by rfl, ?_⟩; intro W hSw; go_simp; try with_reducible rfl
      try simp only [Act.put, List.setIfInBounds_toArray, List.set_cons_zero, List.set_cons_succ]
      refine' wpAnyH_take (i := 5) (oi := _) (v := sv s1) ?hiaf10 (by kernel_rfl) ?hfaf10 ?hraf10 ?hQaf10 ?hyaf10 (But.of_below hSaf1) ?restaf10
      case hiaf10 => (simp only [List.getElem?_toArray, List.getElem?_cons_zero, List.getElem?_cons_succ]; rfl)
      case hfaf10 => kernel_rfl
      case hraf10 => kernel_rfl
      case hQaf10 => exact fun _ _ _ h => h
      case hyaf10 => refine Or.inl ⟨by rfl, ?_⟩; intro W hSw; exact load_sum_op (.tmp 39) (by rfl) (by rfl) HAR.out.2.2.2.1 (HP9.out W hSw).2.1
      try simp only [Act.put, List.setIfInBounds_toArray, List.set_cons_zero, List.set_cons_succ]
      refine' wpAnyH_take (i := 6) (oi := _) (v := sv s) ?hiaf11 (by kernel_rfl) ?hfaf11 ?hraf11 ?hQaf11 ?hyaf11 (But.of_below hSaf1) ?restaf11
      case hiaf11 => (simp only [List.getElem?_toArray, List.getElem?_cons_zero, List.getElem?_cons_succ]; rfl)
      case hfaf11 => kernel_rfl
      case hraf11 => kernel_rfl
      case hQaf11 => exact fun _ _ _ h => h
      case hyaf11 => refine Or.inl ⟨by rfl, ?_⟩; intro W hSw; exact load_sum_op (.tmp 11) (by rfl) (by rfl) HAR.out.2.2.2.2.1 (HP9.out W hSw).2.2
      try simp only [Act.put, List.setIfInBounds_toArray, List.set_cons_zero, List.set_cons_succ]
      refine' wpAnyH_take (i := 7) (oi := _) (v := sv Q2) ?hiaf12 (by kernel_rfl) ?hfaf12 ?hraf12 ?hQaf12 ?hyaf12 (But.of_below hSaf1) ?restaf12
      case hiaf12 => (simp only [List.getElem?_toArray, List.getElem?_cons_zero, List.getElem?_cons_succ]; rfl)
      case hfaf12 => kernel_rfl
      case hraf12 => kernel_rfl
      case hQaf12 => exact fun _ _ _ h => h
      case hyaf12 => have hpq := HQ.out.2.1; subst hpq; exact yields_build_pairC (by rfl) (.tmp 40) (.tmp 41) (by rfl) s1 s (by rfl) (by rfl) HAR.out.2.2.2.1 HAR.out.2.2.2.2.1
      try simp only [Act.put, List.setIfInBounds_toArray, List.set_cons_zero, List.set_cons_succ]
      refine wpAnyH_ready (rs := [8]) (by kernel_rfl) (by simp) ?_
      refine' (AllReadyH.cons (o := _) ?hiaf13 (fun K hK => ?_) AllReadyH.nil)
      case hiaf13 => (simp only [List.getElem?_toArray, List.getElem?_cons_zero, List.getElem?_cons_succ]; rfl)
      rw [if_pos (by rfl)]
      refine step_store_pairC (.tmp 6) (.tmp 38) rfl (g + 1) rfl zero64 Q1 (by rfl) HAR.out.1 hoaf3 rfl ?_
      have hBaf14 := but_setRow (S := (fun x => x = g + 1 ∨ x = g + 2)) (But.of_below hSaf1) (.inl rfl) (bvs Q1).toArray
      have hoaf16 := hoaf3.setRow Q1
      have hnaf17 := hnaf4.setRow_other (g + 1) (by omega) (bvs Q1).toArray
      refine hK.out _ _ hBaf14 (fun _ => ?_)
      clear hK K
      try simp only [Act.put]
      generalize Waf2.setRow (g + 1) (bvs Q1).toArray = Waf15 at hBaf14 hoaf16 hnaf17 ⊢
      refine wpAnyH_ready (rs := [9]) (by kernel_rfl) (by simp) ?_
      refine' (AllReadyH.cons (o := _) ?hiaf18 (fun K hK => ?_) AllReadyH.nil)
      case hiaf18 => (simp only [List.getElem?_toArray, List.getElem?_cons_zero, List.getElem?_cons_succ]; rfl)
      rw [if_pos (by rfl)]
      refine step_store_pairC (.tmp 7) (.tmp 42) rfl (g + 2) rfl zero64 Q2 (by rfl) HAR.out.2.1 hnaf17 rfl ?_
      have hBaf19 := but_setRow (S := (fun x => x = g + 1 ∨ x = g + 2)) hBaf14 (.inr rfl) (bvs Q2).toArray
      have hoaf21 := hoaf16.setRow_other (g + 2) (by omega) (bvs Q2).toArray
      have hnaf22 := hnaf17.setRow Q2
      refine hK.out _ _ hBaf19 (fun _ => ?_)
      clear hK K
      try simp only [Act.put]
      generalize Waf15.setRow (g + 2) (bvs Q2).toArray = Waf20 at hBaf19 hoaf21 hnaf22 ⊢
      refine wpAnyH_done (by kernel_rfl) ?_ _
      go_wp2_with fail
      have hfin : Below g w Waf20 := below_of_but hBaf19 BW9.out two_ge (by have := HZ.out.size; have := Below.size H9.out.2.2; omega)
      refine bodyPost_ret_by (results_cell_cell (p := 6) (q := 7) (ty := 63) (ty2 := 63) (by kernel_rfl) _ _ ⟨g + 1, 0, none⟩ ⟨g + 2, 0, none⟩ (sv Q1) (sv Q2) rfl rfl (run_load_pairC _ _ _ HAR.out.1 hoaf21.at_) (run_load_pairC _ _ _ HAR.out.2.1 hnaf22.at_)) rfl ?_
      exact ⟨.inl ⟨rfl, by first | exact HFIN.out HX7.out.1 | exact HFIN.out HX7.out.1 trivial⟩, hfin⟩
  · have HU := Lib.hid (And.intro hu hb6)
    clear hu hb6
    go_wp2_with fail
    exact ⟨rfl, .inr ⟨u, rfl, HU.out.1⟩, by rw [← HG.out]; exact below_on (below_on B0.out (Nat.le_refl _) B1.out) (Nat.le_refl _) HU.out.2⟩
end

theorem dlink_any {r : Nat} {a : List Nat} (la : a.length = 32) (ba : ∀ x ∈ a, x < 256) : ∀ (n : Nat) (w : World) (A B : Addr) (P : Option Addr) (c d q m : Nat) (edge : Bool) (R S : List (List Nat)) (ys : List Nat), Ent w (some A) m c R → Ent w (some B) n d S → InS w P q ys → (∀ x ∈ ys, x < 256) → q ≤ r → q = ldep m n edge → 1 ≤ m → m ≤ n → (edge = true → a = rtl R) → Knows w → Starts w → n ≤ 60000 →
    Calls Tryd.prog 39 #[.agg #[.slice (some A) m c, .slice (some B) n d], .slice P q r, .bool edge] w fun e w' => Told w.heap.size (.tuple #[sv (rtl R ++ (linkF (nth ys) a m n edge 0).1), sv (rtl S ++ (linkF (nth ys) a m n edge 0).2)]) (rtl R = (linkF (nth ys) a m n edge 0).1 → rtl S = (linkF (nth ys) a m n edge 0).2 → R = S.take m) e w' ∧ Below w.heap.size w w' := by
  intro n
  induction n using Nat.strongRecOn with
  | ind n ih =>
    intro w A B P c d q m edge R S ys E1 E2 hI hy hqr hq h1 hmn hae hk hks h6
    by_cases hn : m = n
    · subst hn; exact dlink_all E1 E2 hI hy hqr hq h1 h6 la ba hae hk hks
    · have ih' := fun k hk w A B P c d q m edge R S ys E1 E2 hI hy hqr hq h1 hmn hae hkn hks => ih k hk w A B P c d q m edge R S ys E1 E2 hI hy hqr hq h1 hmn hae hkn hks (by omega)
      by_cases hs : m ≤ cutN n
      · exact dlink_low E1 E2 hI hy hqr hq h1 hmn h6 la ba hae hk hks (by omega) hs ih'
      · exact dlink_high E1 E2 hI hy hqr hq h1 hmn h6 la ba hae hk hks (by omega) hs ih'

section
end

end Go.Proofs.YtnaebjdccngeoaaDoor

/-
  A sum stored in a variable, loaded, in a region that draws its order.
-/
namespace Go.Proofs.YtnaebjdccngeoaaDoor
open Go.RowKit

theorem step_store_sum {o : Oper} {a : Act} {w : World} {K : Act → World → Prop} {Q : Exit → Act → World → Prop} (x y : Operand) (ho : o.op = .store 36 x y)
    (g : Nat) (hx : a.eval x = .pointer (some ⟨g, 0, none⟩)) {T : TypeId} (xs ys : List Nat) (hl : xs.length = 32) (hl' : ys.length = 32) (hc : BArr w g T xs) (hy : a.eval y = sv ys)
    (h : K (a.put o.dst undef) (w.setRow g (bvs ys).toArray)) : Oper.wp Tryd.prog o a w K Q := by
  have hr := run_storeVar_row (P := Tryd.prog) w g T 36 (bvs xs).toArray (bvs ys).toArray hc (by rw [List.size_toArray, bvs_length, hl']; exact sizeSum) (by rw [List.size_toArray, bvs_length, hl, List.size_toArray, bvs_length, hl']) (all_oneCell_toArray (bvs_oneCell ys))
  unfold Oper.wp execOp
  simp only [ho, hx, hy, sv, Instr.storeAt, Instr.sureAddr, Sem.run_bind, Sem.run_pure, Result.andThen_ok, hr]
  exact h

theorem run_at_sum {o : Oper} {a : Act} {w : World} (x : Operand) (ho : o.op = .load 36 x) (ad : Addr) (hx : a.eval x = .pointer (some ad)) (s : List Nat) (hl : s.length = 32) (hc : At w ad s) :
    (execOp a.eval o).run Tryd.prog w = .ok (.value (sv s)) w := by
  unfold execOp
  simp only [ho, hx, Instr.loadAt, Instr.sureAddr, Sem.run_bind, Sem.run_pure, Result.andThen_ok, run_load_sum w ad s hl hc]

end Go.Proofs.YtnaebjdccngeoaaDoor

/-
  errors.Is of a sentinel and itself, or of none and one.
-/
namespace Go.Proofs.YtnaebjdccngeoaaDoor
open Go.RowKit Go.Extern.Stop Go.Stop Go.Extern

theorem isTypeOf (v : Value) (w : World) : (Extern.ReflectliteType.typeOf #[.iface 148 v]).run Tryd.prog w = .ok (.iface 129 (.agg #[.pointer (some ⟨3, 148, none⟩)])) w := by kernel_rfl
theorem isComparable (w : World) : (callFunc 127 #[.agg #[.pointer (some ⟨3, 148, none⟩)]]).run Tryd.prog w = .ok (.value (.bool true)) w := by
  rw [@run_callFunc_extern Tryd.prog 127 _ (Extern.ReflectliteType.method fun t => do Go.Extern.Rtype.noPackHeld "Comparable" t; pure (.bool (← typeInfo t).comparable)) Tryd.func127 (by kernel_rfl) (by kernel_rfl) (by kernel_rfl) (by kernel_rfl)]
  kernel_rfl
theorem isMethodComparable (n : Nat) (v : Value) (w : World) : (Go.method (n + 1) 129 v "Comparable").run Tryd.prog w = .ok (127, v) w := by kernel_rfl
theorem isComp : (Tryd.prog.info? 148).map (·.comparable) = some true := by kernel_rfl
theorem isSize : (Tryd.prog.info? 173).map (·.size) = some 1 := by kernel_rfl

set_option maxRecDepth 100000 in
theorem is1_same (a : Addr) (w : World) :
    Calls Tryd.prog 73 #[.iface 148 (.pointer (some a)), .iface 148 (.pointer (some a)), .bool true] w fun e w' => e = .returned (.bool true) ∧ w = w' := by
  obtain ⟨i, hi, hcmp⟩ := Option.map_eq_some_iff.1 isComp
  obtain ⟨j, hj, hjs⟩ := Option.map_eq_some_iff.1 isSize
  have heq := run_eql_iface_ptr_same (P := Tryd.prog) w a Tryd.underlying68 Tryd.underlying148 hi hcmp hj
  go_enter Tryd.func73, Tryd.ntmps73
  go_wp2
  refine wp_loop_rounds 1 ?_
  rw [rounds_succ]
  go_wp2
  go_ret
  exact ⟨rfl, rfl⟩

set_option maxRecDepth 100000 in
/-- errors.Is(x, x). -/
theorem is_same (a : Addr) (w : World) :
    Calls Tryd.prog 41 #[.iface 148 (.pointer (some a)), .iface 148 (.pointer (some a))] w fun e w' => e = .returned (.bool true) ∧ w = w' := by
  have h8 := @run_callFunc_extern Tryd.prog 72 _ Extern.ReflectliteType.typeOf Tryd.func72 (by kernel_rfl) (by kernel_rfl) (by kernel_rfl) (by kernel_rfl)
  have tT := isTypeOf
  have cT := isComparable
  have mR := isMethodComparable
  have h1 := is1_same a w
  go_enter Tryd.func41, Tryd.ntmps41
  go_wp2_with (go_at_call 73; refine h1.mono ?_; rintro e w' ⟨rfl, rfl⟩)
  go_ret
  exact ⟨rfl, rfl⟩

/-- errors.Is(nil, x). -/
theorem is_nil (b : Addr) (w : World) :
    Calls Tryd.prog 41 #[.nilIface, .iface 148 (.pointer (some b))] w fun e w' => e = .returned (.bool false) ∧ w = w' := by
  have hn := run_eql_iface_nil_left (P := Tryd.prog) w 148 (.pointer (some b)) Tryd.underlying68
  go_enter Tryd.func41, Tryd.ntmps41
  go_wp2
  go_ret
  exact ⟨rfl, rfl⟩

end Go.Proofs.YtnaebjdccngeoaaDoor

/-
  The sentinel of package links, and where it lies.
-/
namespace Go.Proofs.YtnaebjdccngeoaaDoor
open Go.RowKit

/-- The sentinel as a value: a pointer to E. -/
def missV (E : Addr) : Value := .iface 148 (.pointer (some E))
/-- The variable holds it. -/
def Miss (w : World) (E : Addr) : Prop := w.cell? ⟨0, 0, none⟩ = some (missV E)
theorem Miss.below {w w' : World} {E : Addr} (h : Miss w E) (hb : Below w.heap.size w w') : Miss w' E := (hb.cell (World.block_lt_of_cell? w _ h)).trans h
theorem Miss.lt {w : World} {E : Addr} (h : Miss w E) : 0 < w.heap.size := World.block_lt_of_cell? w _ h

end Go.Proofs.YtnaebjdccngeoaaDoor

/-
  links.ends' closure that takes the next sum out of a variable: it answers an error where there is none.
-/
namespace Go.Proofs.YtnaebjdccngeoaaDoor
open Go.RowKit

/-- The closure that takes the next one, and the one that leads. -/
def takesK (lb : Nat) : Value := .func (.func 69) #[] #[.pointer (some ⟨lb, 0, none⟩)]
def leadsK (ab nb gb : Nat) : Value := .func (.func 70) #[] #[.pointer (some ⟨ab, 0, none⟩), .pointer (some ⟨nb, 0, none⟩), .pointer (some ⟨gb, 0, none⟩)]

/-- The link stands in variable lb, from number j on; the first sum in ab, both closures in nb and gb; everything else is as it was when the call began (B). -/
structure KIn (B w : World) (ab lb nb gb n j : Nat) (A : Option Addr) (c : Nat) (ys a : List Nat) : Prop where
  var : VarAt w lb 24 (.slice A (n - j) c)
  in_ : InS B A (n - j) (ys.drop (32 * j))
  cap : n - j ≤ c
  le : j ≤ n
  sum : BArr w ab 36 a
  nxt : VarAt w nb 90 (takesK lb)
  led : VarAt w gb 91 (leadsK ab nb gb)
  below : Below B.heap.size B w
  pos : B.heap.size ≤ lb
  ne : ab ≠ lb ∧ nb ≠ lb ∧ gb ≠ lb
section
variable {B w w' : World} {ab lb nb gb n j c : Nat} {A : Option Addr} {ys a : List Nat}
theorem KIn.below_ (h : KIn B w ab lb nb gb n j A c ys a) (hb : Below w.heap.size w w') : KIn B w' ab lb nb gb n j A c ys a :=
  ⟨h.var.below hb, h.in_, h.cap, h.le, h.sum.below hb, h.nxt.below hb, h.led.below hb, below_on h.below (Nat.le_refl _) hb, h.pos, h.ne⟩
theorem KIn.lt (h : KIn B w ab lb nb gb n j A c ys a) : lb < w.heap.size ∧ ab < w.heap.size ∧ nb < w.heap.size ∧ gb < w.heap.size := ⟨h.var.lt, (Array.getElem?_eq_some_iff.1 h.sum).1, h.nxt.lt, h.led.lt⟩
/-- A row that was laid later is written into. -/
theorem KIn.setRow (h : KIn B w ab lb nb gb n j A c ys a) {k : Nat} (hk : B.heap.size ≤ k) (hne : lb ≠ k ∧ ab ≠ k ∧ nb ≠ k ∧ gb ≠ k) (cs : Array Value) : KIn B (w.setRow k cs) ab lb nb gb n j A c ys a :=
  ⟨h.var.setRow_other k hne.1 cs, h.in_, h.cap, h.le, (Go.setRow_other _ _ _ _ hne.2.1).trans h.sum, h.nxt.setRow_other k hne.2.2.1 cs, h.led.setRow_other k hne.2.2.2 cs, below_setRow h.below hk cs, h.pos, h.ne⟩
end

/-- What the closure answers, and how many are taken then. -/
def nxS (ys : List Nat) (n j : Nat) : List Nat := if j < n then nth ys j else zero32
def nxV (E : Addr) (n j : Nat) : Value := if j < n then .nilIface else missV E
def nxJ (n j : Nat) : Nat := if j < n then j + 1 else j
theorem nxS_length {ys : List Nat} {n : Nat} (hlen : ys.length = 32 * n) (j : Nat) : (nxS ys n j).length = 32 := by
  unfold nxS
  split
  · rename_i h; exact nth_length hlen h
  · rfl
theorem nxS_lt {ys : List Nat} (hy : ∀ x ∈ ys, x < 256) (n j : Nat) : ∀ x ∈ nxS ys n j, x < 256 := by
  unfold nxS
  split
  · exact nth_lt hy j
  · decide

section
variable {B w : World} {ab lb nb gb n j c : Nat} {A : Option Addr} {ys a : List Nat} {E : Addr}

set_option maxRecDepth 100000 in
set_option maxHeartbeats 2000000 in
theorem knext_none (h : KIn B w ab lb nb gb n j A c ys a) (hj : j = n) (hm : Miss B E) :
    Calls Tryd.prog 69 #[.pointer (some ⟨lb, 0, none⟩)] w fun e w' => e = .returned (.tuple #[sv zero32, missV E]) ∧ Below w.heap.size w w' := by
  subst hj
  have hc := h.var.cell
  rw [Nat.sub_self] at hc
  have e0 : (bvs zero32).toArray = #[.int .u8 0, .int .u8 0, .int .u8 0, .int .u8 0, .int .u8 0, .int .u8 0, .int .u8 0, .int .u8 0, .int .u8 0, .int .u8 0, .int .u8 0, .int .u8 0, .int .u8 0, .int .u8 0, .int .u8 0, .int .u8 0, .int .u8 0, .int .u8 0, .int .u8 0, .int .u8 0, .int .u8 0, .int .u8 0, .int .u8 0, .int .u8 0, .int .u8 0, .int .u8 0, .int .u8 0, .int .u8 0, .int .u8 0, .int .u8 0, .int .u8 0, .int .u8 0] := rfl
  have b1 := below_alloc w (.cells (bvs zero32).toArray 36)
  have f1 := BArr.new w 36 zero32
  rw [e0] at b1 f1
  clear e0
  have hc1 := (b1.cell h.var.lt).trans hc
  have m1 := (hm.below h.below).below b1
  have HM := Lib.hid m1
  have HB := Lib.hid (And.intro b1 f1)
  have HL := Lib.hid (show 0 ≠ w.heap.size from Nat.ne_of_lt (hm.below h.below).lt)
  clear b1 f1 h hm m1
  go_enter Tryd.func69, Tryd.ntmps69
  go_upto_region 1 with fail
  obtain ⟨w1, hw1⟩ : ∃ w1, w1 = w.alloc (.cells #[.int .u8 0, .int .u8 0, .int .u8 0, .int .u8 0, .int .u8 0, .int .u8 0, .int .u8 0, .int .u8 0, .int .u8 0, .int .u8 0, .int .u8 0, .int .u8 0, .int .u8 0, .int .u8 0, .int .u8 0, .int .u8 0, .int .u8 0, .int .u8 0, .int .u8 0, .int .u8 0, .int .u8 0, .int .u8 0, .int .u8 0, .int .u8 0, .int .u8 0, .int .u8 0, .int .u8 0, .int .u8 0, .int .u8 0, .int .u8 0, .int .u8 0, .int .u8 0] 36) := ⟨_, rfl⟩
  rw [← hw1] at HB HM hc1 ⊢
  clear hw1
  go_upto_region 2 with fail
  have hS : Miss w1.drew E := HM.out
  refine wp_region_held (S := fun W => Miss W E) (by kernel_rfl) ?_
  change wpAnyH _ _ _ _ _ _ _ _ w1.drew
  refine' wpAnyH_take (i := 0) (oi := _) (v := sv zero32) ?hi0 (by kernel_rfl) ?hf0 ?hr0 ?hQ0 ?hy0 hS ?rest0
  case hi0 => (simp only [List.getElem?_toArray, List.getElem?_cons_zero]; rfl)
  case hf0 => kernel_rfl
  case hr0 => kernel_rfl
  case hQ0 => exact fun _ _ _ h => h
  case hy0 =>
    refine Or.inl ⟨by rfl, ?_⟩
    intro W hSw
    go_simp
    rfl
  simp only [Act.put, List.setIfInBounds_toArray, List.set_cons_zero, List.set_cons_succ]
  refine' wpAnyH_take (i := 1) (oi := _) (v := missV E) ?hi1 (by kernel_rfl) ?hf1 ?hr1 ?hQ1 ?hy1 hS ?rest1
  case hi1 => (simp only [List.getElem?_toArray, List.getElem?_cons_zero, List.getElem?_cons_succ]; rfl)
  case hf1 => kernel_rfl
  case hr1 => kernel_rfl
  case hQ1 => exact fun _ _ _ h => h
  case hy1 =>
    refine Or.inl ⟨by rfl, ?_⟩
    intro W hSw
    unfold Miss at hSw
    go_simp
    try with_reducible rfl
  simp only [Act.put, List.setIfInBounds_toArray, List.set_cons_zero, List.set_cons_succ]
  refine wpAnyH_ready (rs := [2]) (by kernel_rfl) (by simp) ?_
  refine' AllReadyH.cons (o := _) ?hin (fun K1 hK1 => ?_) AllReadyH.nil
  case hin => (simp only [List.getElem?_toArray, List.getElem?_cons_zero, List.getElem?_cons_succ]; rfl)
  rw [if_pos (by rfl)]
  refine step_store_sum (.tmp 1) (.tmp 7) rfl w.heap.size rfl zero32 zero32 rfl rfl HB.out.2 rfl ?_
  have r1 : BArr (w1.drew.setRow w.heap.size (bvs zero32).toArray) w.heap.size 36 zero32 := (show BArr w1.drew w.heap.size 36 zero32 from HB.out.2).setRow zero32
  have b1 : Below w.heap.size w (w1.drew.setRow w.heap.size (bvs zero32).toArray) := below_setRow HB.out.1.drew (Nat.le_refl _) _
  have hS1 : Miss (w1.drew.setRow w.heap.size (bvs zero32).toArray) E := by
    have e := HL.out
    unfold Miss World.cell? at hS ⊢
    rw [Go.setRow_other _ _ _ _ e]
    exact hS
  obtain ⟨w2, hw2⟩ : ∃ w2, w2 = w1.drew.setRow w.heap.size (bvs zero32).toArray := ⟨_, rfl⟩
  rw [← hw2] at r1 b1 hS1 ⊢
  clear hw2
  refine hK1.out _ _ hS1 (fun _ => ?_)
  clear hK1 K1
  refine' wpAnyH_take (i := 3) (oi := _) (v := _) ?hi3 (by kernel_rfl) ?hf3 ?hr3 ?hQ3 ?hy3 hS1 ?rest3
  case hi3 => (simp only [List.getElem?_toArray, List.getElem?_cons_zero, List.getElem?_cons_succ]; rfl)
  case hf3 => kernel_rfl
  case hr3 => kernel_rfl
  case hQ3 => exact fun _ _ _ h => h
  case hy3 =>
    refine Or.inl ⟨by rfl, ?_⟩
    intro W hSw
    go_simp
    try with_reducible rfl
  simp only [Act.put, List.setIfInBounds_toArray, List.set_cons_zero, List.set_cons_succ]
  refine wpAnyH_done (by kernel_rfl) ?_ _
  go_wp2
  refine bodyPost_ret_by (results_cell_tmp (p := 1) (q := 2) (ty := 36) (by kernel_rfl) _ _ ⟨w.heap.size, 0, none⟩ (sv zero32) rfl (run_load_sum w2 _ zero32 rfl r1.at_)) rfl ?_
  exact ⟨rfl, b1⟩

set_option maxRecDepth 100000 in
set_option maxHeartbeats 2000000 in
theorem knext_some (h : KIn B w ab lb nb gb n j A c ys a) (hj : j < n) (hn : n ≤ 1000000) :
    Calls Tryd.prog 69 #[.pointer (some ⟨lb, 0, none⟩)] w fun e w' => e = .returned (.tuple #[sv (nth ys j), .nilIface]) ∧ (∃ A' c', KIn B w' ab lb nb gb n (j + 1) A' c' ys a) ∧ But (· = lb) w w' := by
  obtain ⟨p, hp⟩ : ∃ p, n - j = p := ⟨_, rfl⟩
  have hp0 : 0 < p := by omega
  have hin := h.in_
  rw [hp] at hin
  obtain ⟨ad, hA, hl, hat⟩ := hin.at_ hp0
  subst hA
  rw [Nat.zero_mul, add_zero', nth_drop, Nat.add_zero] at hat
  rw [nth_drop, Nat.add_zero] at hl
  obtain ⟨s, hs⟩ : ∃ s, nth ys j = s := ⟨_, rfl⟩
  rw [hs] at hat hl ⊢
  have hcap := h.cap
  rw [hp] at hcap
  obtain ⟨A', hcut, hA'⟩ := cut_nameS (A := some ad) (n := p) (c := c) (k := 1) (by omega)
  have hcut1 : ∀ W : World, (Instr.slice 24 (.slice (some ad) p c) (some (.int .i64 1)) none none).run Tryd.prog W = .ok (.slice A' (p - 1) (c - 1)) W := hcut
  have hin' : InS B A' (p - 1) (ys.drop (32 * (j + 1))) := by
    rw [hA', show 32 * (j + 1) = 32 * j + 32 * 1 by omega, ← List.drop_drop]
    split
    · rename_i e
      obtain rfl : p = 1 := by omega
      have := hin.drop_ 1 (Nat.le_refl _)
      rw [Nat.sub_self] at this ⊢
      exact ⟨this.len, by rw [List.eq_nil_of_length_eq_zero (l := List.drop (32 * 1) (ys.drop (32 * j))) (by rw [this.len])]; exact Rd.nil _ _⟩
    · exact hin.drop_ 1 (by omega)
  have hc := h.var.cell
  rw [hp] at hc
  have e0 : (bvs zero32).toArray = #[.int .u8 0, .int .u8 0, .int .u8 0, .int .u8 0, .int .u8 0, .int .u8 0, .int .u8 0, .int .u8 0, .int .u8 0, .int .u8 0, .int .u8 0, .int .u8 0, .int .u8 0, .int .u8 0, .int .u8 0, .int .u8 0, .int .u8 0, .int .u8 0, .int .u8 0, .int .u8 0, .int .u8 0, .int .u8 0, .int .u8 0, .int .u8 0, .int .u8 0, .int .u8 0, .int .u8 0, .int .u8 0, .int .u8 0, .int .u8 0, .int .u8 0, .int .u8 0] := rfl
  have f1 := BArr.new w 36 zero32
  have b1 := below_alloc w (.cells (bvs zero32).toArray 36)
  have s1 : (w.alloc (.cells (bvs zero32).toArray 36)).heap.size = w.heap.size + 1 := by simp
  rw [e0] at f1 b1 s1
  clear e0
  have hc1 := (b1.cell h.var.lt).trans hc
  have hp1 : ((p : Int) == 0) = false := by simp; omega
  have hp2 : (0 : Int) < (p : Int) := by omega
  have HAt := Lib.hid ((hat.below h.below).below b1)
  have HF := Lib.hid (And.intro f1 (And.intro b1 s1))
  have HV := Lib.hid (h.var.below b1)
  have HH := Lib.hid (And.intro h (And.intro hin' hs))
  have HN := Lib.hid (And.intro hp (And.intro hj (And.intro hcap hn)))
  clear f1 b1 s1 hat hcut hA' hin' hin h hs hp hj hcap hn hc
  go_enter Tryd.func69, Tryd.ntmps69
  go_upto_region 1 with fail
  obtain ⟨w1, hw1⟩ : ∃ w1, w1 = w.alloc (.cells #[.int .u8 0, .int .u8 0, .int .u8 0, .int .u8 0, .int .u8 0, .int .u8 0, .int .u8 0, .int .u8 0, .int .u8 0, .int .u8 0, .int .u8 0, .int .u8 0, .int .u8 0, .int .u8 0, .int .u8 0, .int .u8 0, .int .u8 0, .int .u8 0, .int .u8 0, .int .u8 0, .int .u8 0, .int .u8 0, .int .u8 0, .int .u8 0, .int .u8 0, .int .u8 0, .int .u8 0, .int .u8 0, .int .u8 0, .int .u8 0, .int .u8 0, .int .u8 0] 36) := ⟨_, rfl⟩
  rw [← hw1] at HF HAt HV hc1 ⊢
  clear hw1
  have HZ32 := Lib.hid (show zero32.length = 32 from rfl)
  go_upto_region 4 with (first | with_reducible refine wpList_load_sum rfl (.tmp 10) rfl ad rfl s hl HAt.out ?_ | with_reducible refine wpList_store_new w1 _ rfl rfl (.tmp 3) (.tmp 11) rfl rfl s hl rfl ?_)
  have b2 := below_alloc w1 (.cells (bvs s).toArray 36)
  have g2 := BArr.new w1 36 s
  have V2 := HV.out.below b2
  have F2 := HF.out.1.below b2
  have s2 : (w1.alloc (.cells (bvs s).toArray 36)).heap.size = w1.heap.size + 1 := by simp
  have hc2 := (b2.cell HV.out.lt).trans hc1
  have hf2 := V2.free
  obtain ⟨w2, hw2⟩ : ∃ w2, w2 = w1.alloc (.cells (bvs s).toArray 36) := ⟨_, rfl⟩
  rw [← hw2] at b2 g2 V2 F2 s2 hc2 hf2 ⊢
  clear hw2
  have HG := Lib.hid (And.intro b2 (And.intro g2 (And.intro V2 (And.intro F2 s2))))
  clear b2 g2 V2 F2 s2
  go_upto_region 5 with fail
  obtain ⟨w3, hw3⟩ : ∃ w3, w3 = w2.setCell ⟨lb, 0, none⟩ (.slice A' (p - 1) (c - 1)) := ⟨_, rfl⟩
  rw [← hw3]
  have hpb : lb < w.heap.size := HH.out.1.var.lt
  have g3 : BArr w3 w1.heap.size 36 s := by rw [hw3]; exact HG.out.2.1.other _ _ (by have := HF.out.2.2; simp only; omega)
  have f3 : BArr w3 w.heap.size 36 zero32 := by rw [hw3]; exact HG.out.2.2.2.1.other _ _ (by simp only; omega)
  have v3 : VarAt w3 lb 24 (.slice A' (p - 1) (c - 1)) := by rw [hw3]; exact HG.out.2.2.1.set _
  have HK := Lib.hid (And.intro v3 hw3)
  have g3' := Lib.hid g3.at_
  clear v3 hw3 g3
  go_wp2_with (first | with_reducible refine wpList_load_sum rfl (.tmp 3) rfl ⟨w1.heap.size, 0, none⟩ rfl s hl g3'.out ?_ | with_reducible refine wpList_store_sum rfl (.tmp 1) (.tmp 14) rfl w.heap.size rfl zero32 s HZ32 hl f3 rfl ?_)
  have r4 : BArr (w3.setRow w.heap.size (bvs s).toArray) w.heap.size 36 s := f3.setRow s
  refine bodyPost_ret_by (results_cell_tmp (p := 1) (q := 2) (ty := 36) (by kernel_rfl) _ _ ⟨w.heap.size, 0, none⟩ (sv s) rfl (run_load_sum _ _ s hl r4.at_)) rfl ?_
  have bu : But (· = lb) w w3 := by rw [HK.out.2]; exact ((But.of_below HF.out.2.1).trans (But.of_below HG.out.1)).set 0 _ (fun _ => rfl)
  have HB := HH.out.1
  have hlts := HB.lt
  have hne := HB.ne
  have bu4 : But (· = lb) w (w3.setRow w.heap.size (bvs s).toArray) := ⟨bu.os, bu.tape, bu.output, by rw [setRow_size]; exact bu.size, fun b hb hne => (Go.setRow_other _ _ _ _ (by omega)).trans (bu.block b hb hne)⟩
  refine ⟨rfl, ⟨A', c - 1, ?_⟩, bu4⟩
  · have hpos := HB.pos
    have hnn := HN.out
    refine ⟨?_, ?_, ?_, by omega, ?_, ?_, ?_, ?_, hpos, hne⟩
    · rw [show n - (j + 1) = p - 1 by omega]
      exact HK.out.1.setRow_other _ (by omega) _
    · rw [show n - (j + 1) = p - 1 by omega]; exact HH.out.2.1
    · omega
    · exact (bu4.block _ hlts.2.1 hne.1).trans HB.sum
    · exact HB.nxt.but bu4 hne.2.1
    · exact HB.led.but bu4 hne.2.2
    · exact below_setRow (HB.below.trans (bu.below HB.below.size (fun b e => by rw [e]; exact hpos))) (by have := HB.below.size; omega) _

/-- Both ways in one. -/
theorem knext_any (h : KIn B w ab lb nb gb n j A c ys a) (hn : n ≤ 1000000) (hm : Miss B E) :
    Calls Tryd.prog 69 #[.pointer (some ⟨lb, 0, none⟩)] w fun e w' => e = .returned (.tuple #[sv (nxS ys n j), nxV E n j]) ∧ (∃ A' c', KIn B w' ab lb nb gb n (nxJ n j) A' c' ys a) ∧ But (· = lb) w w' := by
  unfold nxS nxV nxJ
  by_cases hj : j < n
  · rw [if_pos hj, if_pos hj, if_pos hj]
    exact knext_some h hj hn
  · rw [if_neg hj, if_neg hj, if_neg hj]
    exact (knext_none h (by have := h.le; omega) hm).mono fun e w' ⟨he, hb⟩ => ⟨he, ⟨A, c, h.below_ hb⟩, But.of_below hb⟩

end

end Go.Proofs.YtnaebjdccngeoaaDoor

/-
  links.left: how many leaves a left side has.
-/
namespace Go.Proofs.YtnaebjdccngeoaaDoor
open Go.RowKit

set_option maxRecDepth 100000 in
set_option maxHeartbeats 1000000 in
theorem kleft_any (m : Nat) (w : World) (h2 : 2 ≤ m) (hm : m < 18446744073709551616) :
    Calls Tryd.prog 71 #[.int .u64 (m : Int)] w fun e w' => e = .returned (.int .u64 (cutN m : Int)) ∧ w' = w := by
  have C := Lib.hid (len64_all (m - 1) w (by omega))
  obtain ⟨b, hb0⟩ : ∃ b, Nat.log2 (m - 1) = b := ⟨_, rfl⟩
  have hb : Lib.bitLen (m - 1) = b + 1 := by rw [bitLen_log (by omega) (by omega), hb0]
  have hb64 : b < 64 := by rw [← hb0]; exact (Nat.log2_lt (by omega)).2 (by omega)
  rw [hb] at C
  have hcut : cutN m = 2 ^ b := by rw [cutN, hb0]
  have hm1 : (m : Int) - 1 = ((m - 1 : Nat) : Int) := by omega
  have hlt : 2 ^ b < 18446744073709551616 := Nat.lt_of_lt_of_le (Nat.pow_lt_pow_right (by omega) hb64) (Nat.le_refl (2 ^ 64))
  have HC := Lib.hid (And.intro hcut hlt)
  have HL := Lib.hid hb64
  clear hcut hb hb0 hlt
  go_enter Tryd.func71, Tryd.ntmps71
  go_wp2_with fail
  refine C.out.mono ?_
  rintro e w1 ⟨rfl, rfl⟩
  have hb64' : b < 64 := HL.out
  go_wp2_with fail
  go_ret
  exact ⟨by rw [HC.out.1, wrapU_pow HC.out.2]; rfl, rfl⟩

end Go.Proofs.YtnaebjdccngeoaaDoor

/-
  links.ends' closure that calls itself: what the sums of a link lead to, and whether one is missing.
-/
namespace Go.Proofs.YtnaebjdccngeoaaDoor
open Go.RowKit

/-- The world in which lead begins. -/
structure KLeadIn (w w1 : World) : Prop where
  res : BArr w1 w.heap.size 62 zero64
  below : Below w.heap.size w w1
  size : w1.heap.size = w.heap.size + 1
theorem kleadIn_of (w : World) : KLeadIn w (w.alloc (.cells (bvs zero64).toArray 62)) := ⟨BArr.new _ _ _, below_alloc w _, by simp⟩

/-- What lead answers: two sums and an error; and how many are taken then. -/
def Led (B w : World) (ab lb nb gb n : Nat) (ys a P Q : List Nat) (ev : Value) (j : Nat) (e : Ending) (w' : World) : Prop :=
  e = .returned (.tuple #[sv (P ++ Q), ev]) ∧ (∃ A' c', KIn B w' ab lb nb gb n j A' c' ys a) ∧ But (· = lb) w w'

section
variable {B w : World} {ab lb nb gb n j c : Nat} {A : Option Addr} {ys a : List Nat} {E : Addr} {from_ size : Nat} {edge : Bool}

set_option maxRecDepth 100000 in
set_option maxHeartbeats 4000000 in
theorem klead_edge (h : KIn B w ab lb nb gb n j A c ys a) (hl : a.length = 32) (hfs : from_ = size) :
    Calls Tryd.prog 70 #[.int .u64 (from_ : Int), .int .u64 (size : Int), .bool true, .pointer (some ⟨ab, 0, none⟩), .pointer (some ⟨nb, 0, none⟩), .pointer (some ⟨gb, 0, none⟩)] w (Led B w ab lb nb gb n ys a a a .nilIface j) := by
  subst hfs
  have e0 : (bvs zero64).toArray = #[.int .u8 0, .int .u8 0, .int .u8 0, .int .u8 0, .int .u8 0, .int .u8 0, .int .u8 0, .int .u8 0, .int .u8 0, .int .u8 0, .int .u8 0, .int .u8 0, .int .u8 0, .int .u8 0, .int .u8 0, .int .u8 0, .int .u8 0, .int .u8 0, .int .u8 0, .int .u8 0, .int .u8 0, .int .u8 0, .int .u8 0, .int .u8 0, .int .u8 0, .int .u8 0, .int .u8 0, .int .u8 0, .int .u8 0, .int .u8 0, .int .u8 0, .int .u8 0, .int .u8 0, .int .u8 0, .int .u8 0, .int .u8 0, .int .u8 0, .int .u8 0, .int .u8 0, .int .u8 0, .int .u8 0, .int .u8 0, .int .u8 0, .int .u8 0, .int .u8 0, .int .u8 0, .int .u8 0, .int .u8 0, .int .u8 0, .int .u8 0, .int .u8 0, .int .u8 0, .int .u8 0, .int .u8 0, .int .u8 0, .int .u8 0, .int .u8 0, .int .u8 0, .int .u8 0, .int .u8 0, .int .u8 0, .int .u8 0, .int .u8 0, .int .u8 0] := rfl
  have h1 := kleadIn_of w
  rw [e0] at h1
  clear e0
  obtain ⟨w1, hw1⟩ : ∃ w1, w1 = w.alloc (.cells #[.int .u8 0, .int .u8 0, .int .u8 0, .int .u8 0, .int .u8 0, .int .u8 0, .int .u8 0, .int .u8 0, .int .u8 0, .int .u8 0, .int .u8 0, .int .u8 0, .int .u8 0, .int .u8 0, .int .u8 0, .int .u8 0, .int .u8 0, .int .u8 0, .int .u8 0, .int .u8 0, .int .u8 0, .int .u8 0, .int .u8 0, .int .u8 0, .int .u8 0, .int .u8 0, .int .u8 0, .int .u8 0, .int .u8 0, .int .u8 0, .int .u8 0, .int .u8 0, .int .u8 0, .int .u8 0, .int .u8 0, .int .u8 0, .int .u8 0, .int .u8 0, .int .u8 0, .int .u8 0, .int .u8 0, .int .u8 0, .int .u8 0, .int .u8 0, .int .u8 0, .int .u8 0, .int .u8 0, .int .u8 0, .int .u8 0, .int .u8 0, .int .u8 0, .int .u8 0, .int .u8 0, .int .u8 0, .int .u8 0, .int .u8 0, .int .u8 0, .int .u8 0, .int .u8 0, .int .u8 0, .int .u8 0, .int .u8 0, .int .u8 0, .int .u8 0] 62) := ⟨_, rfl⟩
  rw [← hw1] at h1
  have H1 := Lib.hid h1
  have HW := Lib.hid hw1
  have HP := Lib.hid h
  have HLT := Lib.hid (And.intro h.lt (And.intro h1.size h1.below.size))
  have HZ := Lib.hid (show zero64.length = 64 from rfl)
  have hA := Lib.hid (h.below_ h1.below).sum.at_
  have hf : ((from_ : Int) == (from_ : Int)) = true := by simp
  have R1 := h1.res
  clear h h1 hw1
  go_enter Tryd.func70, Tryd.ntmps70
  go_upto_region 1 with fail
  rw [← HW.out]
  have haa : (a ++ a).length = 64 := by rw [List.length_append]; omega
  go_upto_region 3 with fail
  refine wp_region_lit ?_
  refine wpList_load_sum rfl (.tmp 3) rfl ⟨ab, 0, none⟩ rfl a hl hA.out ?_
  refine wpList_load_sum rfl (.tmp 3) rfl ⟨ab, 0, none⟩ rfl a hl hA.out ?_
  refine wpList_build_pair rfl (.tmp 24) (.tmp 25) rfl a a rfl rfl hl hl ?_
  refine wpList_store_pair rfl (.tmp 9) (.tmp 26) rfl w.heap.size rfl zero64 (a ++ a) HZ.out haa R1 rfl ?_
  simp only [Act.put, List.setIfInBounds_toArray, List.set_cons_zero, List.set_cons_succ]
  go_wp2_with fail
  have r4 : BArr (w1.setRow w.heap.size (bvs (a ++ a)).toArray) w.heap.size 62 (a ++ a) := R1.setRow _
  refine bodyPost_ret_by (results_cell_tmp (p := 9) (q := 10) (ty := 62) (by kernel_rfl) _ _ ⟨w.heap.size, 0, none⟩ (sv (a ++ a)) rfl (run_load_pair _ _ _ haa r4.at_)) rfl ?_
  have hlt := HLT.out
  have hb0 := HP.out.below.size
  exact ⟨rfl, ⟨A, c, (HP.out.below_ H1.out.below).setRow (by omega) ⟨by omega, by omega, by omega, by omega⟩ _⟩, But.of_below (below_setRow H1.out.below (Nat.le_refl _) _)⟩

set_option maxRecDepth 100000 in
set_option maxHeartbeats 4000000 in
theorem klead_root {s : List Nat} {ev : Value} {j' : Nat} (h : KIn B w ab lb nb gb n j A c ys a) (hsl : s.length = 32) (hfs : from_ = size)
    (cn : ∀ w' : World, KIn B w' ab lb nb gb n j A c ys a → Calls Tryd.prog 69 #[.pointer (some ⟨lb, 0, none⟩)] w' fun e w'' => e = .returned (.tuple #[sv s, ev]) ∧ (∃ A' c', KIn B w'' ab lb nb gb n j' A' c' ys a) ∧ But (· = lb) w' w'') :
    Calls Tryd.prog 70 #[.int .u64 (from_ : Int), .int .u64 (size : Int), .bool false, .pointer (some ⟨ab, 0, none⟩), .pointer (some ⟨nb, 0, none⟩), .pointer (some ⟨gb, 0, none⟩)] w (Led B w ab lb nb gb n ys a s s ev j') := by
  subst hfs
  have e0 : (bvs zero64).toArray = #[.int .u8 0, .int .u8 0, .int .u8 0, .int .u8 0, .int .u8 0, .int .u8 0, .int .u8 0, .int .u8 0, .int .u8 0, .int .u8 0, .int .u8 0, .int .u8 0, .int .u8 0, .int .u8 0, .int .u8 0, .int .u8 0, .int .u8 0, .int .u8 0, .int .u8 0, .int .u8 0, .int .u8 0, .int .u8 0, .int .u8 0, .int .u8 0, .int .u8 0, .int .u8 0, .int .u8 0, .int .u8 0, .int .u8 0, .int .u8 0, .int .u8 0, .int .u8 0, .int .u8 0, .int .u8 0, .int .u8 0, .int .u8 0, .int .u8 0, .int .u8 0, .int .u8 0, .int .u8 0, .int .u8 0, .int .u8 0, .int .u8 0, .int .u8 0, .int .u8 0, .int .u8 0, .int .u8 0, .int .u8 0, .int .u8 0, .int .u8 0, .int .u8 0, .int .u8 0, .int .u8 0, .int .u8 0, .int .u8 0, .int .u8 0, .int .u8 0, .int .u8 0, .int .u8 0, .int .u8 0, .int .u8 0, .int .u8 0, .int .u8 0, .int .u8 0] := rfl
  have h1 := kleadIn_of w
  rw [e0] at h1
  clear e0
  obtain ⟨w1, hw1⟩ : ∃ w1, w1 = w.alloc (.cells #[.int .u8 0, .int .u8 0, .int .u8 0, .int .u8 0, .int .u8 0, .int .u8 0, .int .u8 0, .int .u8 0, .int .u8 0, .int .u8 0, .int .u8 0, .int .u8 0, .int .u8 0, .int .u8 0, .int .u8 0, .int .u8 0, .int .u8 0, .int .u8 0, .int .u8 0, .int .u8 0, .int .u8 0, .int .u8 0, .int .u8 0, .int .u8 0, .int .u8 0, .int .u8 0, .int .u8 0, .int .u8 0, .int .u8 0, .int .u8 0, .int .u8 0, .int .u8 0, .int .u8 0, .int .u8 0, .int .u8 0, .int .u8 0, .int .u8 0, .int .u8 0, .int .u8 0, .int .u8 0, .int .u8 0, .int .u8 0, .int .u8 0, .int .u8 0, .int .u8 0, .int .u8 0, .int .u8 0, .int .u8 0, .int .u8 0, .int .u8 0, .int .u8 0, .int .u8 0, .int .u8 0, .int .u8 0, .int .u8 0, .int .u8 0, .int .u8 0, .int .u8 0, .int .u8 0, .int .u8 0, .int .u8 0, .int .u8 0, .int .u8 0, .int .u8 0] 62) := ⟨_, rfl⟩
  rw [← hw1] at h1
  have H1 := Lib.hid h1
  have HW := Lib.hid hw1
  have HP := Lib.hid h
  have HLT := Lib.hid (And.intro h.lt (And.intro h1.size h1.below.size))
  have HZ := Lib.hid (show zero64.length = 64 from rfl)
  have n1 := (h.below_ h1.below).nxt.cell
  have HC := Lib.hid (cn w1 (h.below_ h1.below))
  have hf : ((from_ : Int) == (from_ : Int)) = true := by simp
  clear h h1 hw1 cn
  unfold takesK at n1
  go_enter Tryd.func70, Tryd.ntmps70
  go_upto_region 1 with fail
  rw [← HW.out]
  go_wp2_with fail
  refine HC.out.mono ?_
  rintro e w2 ⟨rfl, hk2, hb2⟩
  have HK2 := Lib.hid (And.intro hk2 hb2)
  clear hk2 hb2
  go_upto_region 5 with (with_reducible refine wpList_store_new w2 _ rfl rfl (.tmp 11) (.tmp 30) rfl rfl s hsl rfl ?_)
  have b3 := below_alloc w2 (.cells (bvs s).toArray 36)
  have g3 := BArr.new w2 36 s
  have r2 : BArr w2 w.heap.size 62 zero64 := (HK2.out.2.block _ H1.out.res.lt (by have := HLT.out; omega)).trans H1.out.res
  obtain ⟨w3, hw3⟩ : ∃ w3, w3 = w2.alloc (.cells (bvs s).toArray 36) := ⟨_, rfl⟩
  rw [← hw3] at b3 g3 ⊢
  have R3 := r2.below b3
  have G3 := Lib.hid g3.at_
  have B3 := Lib.hid b3
  have hss : (s ++ s).length = 64 := by rw [List.length_append]; omega
  clear b3 g3 r2 hw3
  refine wp_region_lit ?_
  refine wpList_load_sum rfl (.tmp 11) rfl ⟨w2.heap.size, 0, none⟩ rfl s hsl G3.out ?_
  refine wpList_load_sum rfl (.tmp 11) rfl ⟨w2.heap.size, 0, none⟩ rfl s hsl G3.out ?_
  refine wpList_build_pair rfl (.tmp 32) (.tmp 33) rfl s s rfl rfl hsl hsl ?_
  refine wpList_plain rfl fun K hK => ?_
  go_simp
  refine hK _ _ ?_
  clear hK K
  refine wpList_store_pair rfl (.tmp 9) (.tmp 34) rfl w.heap.size rfl zero64 (s ++ s) HZ.out hss R3 rfl ?_
  simp only [Act.put]
  go_wp2_with fail
  have r4 : BArr (w3.setRow w.heap.size (bvs (s ++ s)).toArray) w.heap.size 62 (s ++ s) := R3.setRow _
  refine bodyPost_ret_by (results_cell_tmp (p := 9) (q := 10) (ty := 62) (by kernel_rfl) _ _ ⟨w.heap.size, 0, none⟩ (sv (s ++ s)) rfl (run_load_pair _ _ _ hss r4.at_)) rfl ?_
  have hlt := HLT.out
  have hb0 := HP.out.below.size
  obtain ⟨A', c', hk2⟩ := HK2.out.1
  have bu : But (· = lb) w w3 := ((But.of_below H1.out.below).trans HK2.out.2).trans (But.of_below B3.out)
  exact ⟨rfl, ⟨A', c', (hk2.below_ B3.out).setRow (by omega) ⟨by omega, by omega, by omega, by omega⟩ _⟩, ⟨bu.os, bu.tape, bu.output, by rw [setRow_size]; exact bu.size, fun b hb hne => (Go.setRow_other _ _ _ _ (by omega)).trans (bu.block b hb hne)⟩⟩

set_option maxRecDepth 100000 in
set_option maxHeartbeats 4000000 in
theorem klead_low_fall {P Q : List Nat} {j' : Nat} (h : KIn B w ab lb nb gb n j A c ys a) (hPl : P.length = 32) (hQl : Q.length = 32) (h2 : 2 ≤ size) (hz : size < 18446744073709551616) (hfs : from_ < size) (ha : from_ ≤ cutN size)
    (ih : ∀ w' : World, KIn B w' ab lb nb gb n j A c ys a → Calls Tryd.prog 70 #[.int .u64 (from_ : Nat), .int .u64 ((cutN size) : Nat), .bool edge, .pointer (some ⟨ab, 0, none⟩), .pointer (some ⟨nb, 0, none⟩), .pointer (some ⟨gb, 0, none⟩)] w' (Led B w' ab lb nb gb n ys a P Q (missV E) j'))
 :
    Calls Tryd.prog 70 #[.int .u64 (from_ : Int), .int .u64 (size : Int), .bool edge, .pointer (some ⟨ab, 0, none⟩), .pointer (some ⟨nb, 0, none⟩), .pointer (some ⟨gb, 0, none⟩)] w (Led B w ab lb nb gb n ys a P Q (missV E) j') := by
  have e0 : (bvs zero64).toArray = #[.int .u8 0, .int .u8 0, .int .u8 0, .int .u8 0, .int .u8 0, .int .u8 0, .int .u8 0, .int .u8 0, .int .u8 0, .int .u8 0, .int .u8 0, .int .u8 0, .int .u8 0, .int .u8 0, .int .u8 0, .int .u8 0, .int .u8 0, .int .u8 0, .int .u8 0, .int .u8 0, .int .u8 0, .int .u8 0, .int .u8 0, .int .u8 0, .int .u8 0, .int .u8 0, .int .u8 0, .int .u8 0, .int .u8 0, .int .u8 0, .int .u8 0, .int .u8 0, .int .u8 0, .int .u8 0, .int .u8 0, .int .u8 0, .int .u8 0, .int .u8 0, .int .u8 0, .int .u8 0, .int .u8 0, .int .u8 0, .int .u8 0, .int .u8 0, .int .u8 0, .int .u8 0, .int .u8 0, .int .u8 0, .int .u8 0, .int .u8 0, .int .u8 0, .int .u8 0, .int .u8 0, .int .u8 0, .int .u8 0, .int .u8 0, .int .u8 0, .int .u8 0, .int .u8 0, .int .u8 0, .int .u8 0, .int .u8 0, .int .u8 0, .int .u8 0] := rfl
  have h1 := kleadIn_of w
  rw [e0] at h1
  clear e0
  obtain ⟨w1, hw1⟩ : ∃ w1, w1 = w.alloc (.cells #[.int .u8 0, .int .u8 0, .int .u8 0, .int .u8 0, .int .u8 0, .int .u8 0, .int .u8 0, .int .u8 0, .int .u8 0, .int .u8 0, .int .u8 0, .int .u8 0, .int .u8 0, .int .u8 0, .int .u8 0, .int .u8 0, .int .u8 0, .int .u8 0, .int .u8 0, .int .u8 0, .int .u8 0, .int .u8 0, .int .u8 0, .int .u8 0, .int .u8 0, .int .u8 0, .int .u8 0, .int .u8 0, .int .u8 0, .int .u8 0, .int .u8 0, .int .u8 0, .int .u8 0, .int .u8 0, .int .u8 0, .int .u8 0, .int .u8 0, .int .u8 0, .int .u8 0, .int .u8 0, .int .u8 0, .int .u8 0, .int .u8 0, .int .u8 0, .int .u8 0, .int .u8 0, .int .u8 0, .int .u8 0, .int .u8 0, .int .u8 0, .int .u8 0, .int .u8 0, .int .u8 0, .int .u8 0, .int .u8 0, .int .u8 0, .int .u8 0, .int .u8 0, .int .u8 0, .int .u8 0, .int .u8 0, .int .u8 0, .int .u8 0, .int .u8 0] 62) := ⟨_, rfl⟩
  rw [← hw1] at h1
  have H1 := Lib.hid h1
  have HW := Lib.hid hw1
  have HP := Lib.hid h
  have HLT := Lib.hid (And.intro h.lt (And.intro h1.size h1.below.size))
  have HZ := Lib.hid (show zero64.length = 64 from rfl)
  have hcl := cutN_lt h2
  have hcp := cutN_pos size
  obtain ⟨k, hk0⟩ : ∃ k, cutN size = k := ⟨_, rfl⟩
  rw [hk0] at hcl hcp ha ih
  have ns : ((from_ : Int) == (size : Int)) = false := by simp; omega
  have hle : (from_ : Int) ≤ (k : Int) := by omega
  have CM := Lib.hid (kleft_any size w1 h2 hz)
  rw [hk0] at CM
  have K1 := h.below_ h1.below
  have l1 := K1.led.cell
  unfold leadsK at l1
  have IH := Lib.hid (ih w1 K1)
  have hPQ : (P ++ Q).length = 64 := by rw [List.length_append]; omega
  clear h h1 hw1 ih K1 hk0 hcl hcp h2 hz hfs ha hPl hQl
  go_enter Tryd.func70, Tryd.ntmps70
  go_upto_region 1 with fail
  rw [← HW.out]
  go_wp2_with fail
  refine CM.out.mono ?_
  rintro e w2 ⟨rfl, rfl⟩
  go_wp2_with fail
  refine IH.out.mono ?_
  rintro e w3 ⟨rfl, ⟨A3, c3, hk3⟩, hb3⟩
  have HK3 := Lib.hid (And.intro hk3 hb3)
  have r3 : BArr w3 w.heap.size 62 zero64 := (hb3.block _ H1.out.res.lt (by have := HLT.out; omega)).trans H1.out.res
  have HR3 := Lib.hid r3
  clear hk3 hb3 r3
  go_upto_region 9 with (with_reducible refine wpList_store_newP w3 _ rfl rfl (.tmp 14) (.tmp 47) rfl rfl (P ++ Q) hPQ rfl ?_)
  have b4 := below_alloc w3 (.cells (bvs (P ++ Q)).toArray 62)
  have g4 := BArr.new w3 62 (P ++ Q)
  obtain ⟨w4, hw4⟩ : ∃ w4, w4 = w3.alloc (.cells (bvs (P ++ Q)).toArray 62) := ⟨_, rfl⟩
  rw [← hw4] at b4 g4 ⊢
  have HK4 := Lib.hid (HK3.out.1.below_ b4)
  have HR4 := Lib.hid (HR3.out.below b4)
  have BU4 := Lib.hid (((But.of_below H1.out.below).trans HK3.out.2).trans (But.of_below b4))
  have G4 := Lib.hid g4
  have S4 := Lib.hid (And.intro HK3.out.2.size (And.intro b4.size (show w3.heap.size < w4.heap.size from by rw [hw4]; simp)))
  clear hw4 b4 g4
  have mv : missV E = .iface 148 (.pointer (some E)) := rfl
  rw [mv]
  have hG := Lib.hid G4.out.at_
  have hR4 := HR4.out
  go_wp2_with (first | with_reducible refine wpList_load_pair rfl (.tmp 14) rfl ⟨w3.heap.size, 0, none⟩ rfl (P ++ Q) hPQ hG.out ?_ | with_reducible refine wpList_store_pair rfl (.tmp 9) (.tmp 51) rfl w.heap.size rfl zero64 (P ++ Q) HZ.out hPQ hR4 rfl ?_)
  have r5 : BArr (w4.setRow w.heap.size (bvs (P ++ Q)).toArray) w.heap.size 62 (P ++ Q) := hR4.setRow _
  refine bodyPost_ret_by (results_cell_tmp (p := 9) (q := 10) (ty := 62) (by kernel_rfl) _ _ ⟨w.heap.size, 0, none⟩ (sv (P ++ Q)) rfl (run_load_pair _ _ _ hPQ r5.at_)) rfl ?_
  have hlt := HLT.out
  have hb0 := HP.out.below.size
  have bu := BU4.out
  exact ⟨rfl, ⟨A3, c3, HK4.out.setRow (by omega) ⟨by omega, by omega, by omega, by omega⟩ _⟩, ⟨bu.os, bu.tape, bu.output, by rw [setRow_size]; exact bu.size, fun b hb hne => (Go.setRow_other _ _ _ _ (by omega)).trans (bu.block b hb hne)⟩⟩

set_option maxRecDepth 100000 in
set_option maxHeartbeats 4000000 in
theorem klead_high_fall {P Q : List Nat} {j' : Nat} (h : KIn B w ab lb nb gb n j A c ys a) (hPl : P.length = 32) (hQl : Q.length = 32) (h2 : 2 ≤ size) (hz : size < 18446744073709551616) (hfs : from_ < size) (ha : ¬ from_ ≤ cutN size)
    (ih : ∀ w' : World, KIn B w' ab lb nb gb n j A c ys a → Calls Tryd.prog 70 #[.int .u64 ((from_ - cutN size) : Nat), .int .u64 ((size - cutN size) : Nat), .bool false, .pointer (some ⟨ab, 0, none⟩), .pointer (some ⟨nb, 0, none⟩), .pointer (some ⟨gb, 0, none⟩)] w' (Led B w' ab lb nb gb n ys a P Q (missV E) j'))
 :
    Calls Tryd.prog 70 #[.int .u64 (from_ : Int), .int .u64 (size : Int), .bool edge, .pointer (some ⟨ab, 0, none⟩), .pointer (some ⟨nb, 0, none⟩), .pointer (some ⟨gb, 0, none⟩)] w (Led B w ab lb nb gb n ys a P Q (missV E) j') := by
  have e0 : (bvs zero64).toArray = #[.int .u8 0, .int .u8 0, .int .u8 0, .int .u8 0, .int .u8 0, .int .u8 0, .int .u8 0, .int .u8 0, .int .u8 0, .int .u8 0, .int .u8 0, .int .u8 0, .int .u8 0, .int .u8 0, .int .u8 0, .int .u8 0, .int .u8 0, .int .u8 0, .int .u8 0, .int .u8 0, .int .u8 0, .int .u8 0, .int .u8 0, .int .u8 0, .int .u8 0, .int .u8 0, .int .u8 0, .int .u8 0, .int .u8 0, .int .u8 0, .int .u8 0, .int .u8 0, .int .u8 0, .int .u8 0, .int .u8 0, .int .u8 0, .int .u8 0, .int .u8 0, .int .u8 0, .int .u8 0, .int .u8 0, .int .u8 0, .int .u8 0, .int .u8 0, .int .u8 0, .int .u8 0, .int .u8 0, .int .u8 0, .int .u8 0, .int .u8 0, .int .u8 0, .int .u8 0, .int .u8 0, .int .u8 0, .int .u8 0, .int .u8 0, .int .u8 0, .int .u8 0, .int .u8 0, .int .u8 0, .int .u8 0, .int .u8 0, .int .u8 0, .int .u8 0] := rfl
  have h1 := kleadIn_of w
  rw [e0] at h1
  clear e0
  obtain ⟨w1, hw1⟩ : ∃ w1, w1 = w.alloc (.cells #[.int .u8 0, .int .u8 0, .int .u8 0, .int .u8 0, .int .u8 0, .int .u8 0, .int .u8 0, .int .u8 0, .int .u8 0, .int .u8 0, .int .u8 0, .int .u8 0, .int .u8 0, .int .u8 0, .int .u8 0, .int .u8 0, .int .u8 0, .int .u8 0, .int .u8 0, .int .u8 0, .int .u8 0, .int .u8 0, .int .u8 0, .int .u8 0, .int .u8 0, .int .u8 0, .int .u8 0, .int .u8 0, .int .u8 0, .int .u8 0, .int .u8 0, .int .u8 0, .int .u8 0, .int .u8 0, .int .u8 0, .int .u8 0, .int .u8 0, .int .u8 0, .int .u8 0, .int .u8 0, .int .u8 0, .int .u8 0, .int .u8 0, .int .u8 0, .int .u8 0, .int .u8 0, .int .u8 0, .int .u8 0, .int .u8 0, .int .u8 0, .int .u8 0, .int .u8 0, .int .u8 0, .int .u8 0, .int .u8 0, .int .u8 0, .int .u8 0, .int .u8 0, .int .u8 0, .int .u8 0, .int .u8 0, .int .u8 0, .int .u8 0, .int .u8 0] 62) := ⟨_, rfl⟩
  rw [← hw1] at h1
  have H1 := Lib.hid h1
  have HW := Lib.hid hw1
  have HP := Lib.hid h
  have HLT := Lib.hid (And.intro h.lt (And.intro h1.size h1.below.size))
  have HZ := Lib.hid (show zero64.length = 64 from rfl)
  have hcl := cutN_lt h2
  have hcp := cutN_pos size
  obtain ⟨k, hk0⟩ : ∃ k, cutN size = k := ⟨_, rfl⟩
  rw [hk0] at hcl hcp ha ih
  have ns : ((from_ : Int) == (size : Int)) = false := by simp; omega
  have hle : ¬ (from_ : Int) ≤ (k : Int) := by omega
  obtain ⟨d, hd0⟩ : ∃ d, from_ - k = d := ⟨_, rfl⟩
  obtain ⟨m, hm0⟩ : ∃ m, size - k = m := ⟨_, rfl⟩
  rw [hd0, hm0] at ih
  have ea : IntKind.u64.wrap ((from_ : Int) - (k : Int)) = (d : Int) := by rw [IntKind.wrap_u64]; omega
  have em : IntKind.u64.wrap ((size : Int) - (k : Int)) = (m : Int) := by rw [IntKind.wrap_u64]; omega
  have CM := Lib.hid (kleft_any size w1 h2 hz)
  rw [hk0] at CM
  have K1 := h.below_ h1.below
  have l1 := K1.led.cell
  unfold leadsK at l1
  have IH := Lib.hid (ih w1 K1)
  have hPQ : (P ++ Q).length = 64 := by rw [List.length_append]; omega
  clear h h1 hw1 ih K1 hk0 hcl hcp h2 hz hfs ha hPl hQl hd0 hm0
  go_enter Tryd.func70, Tryd.ntmps70
  go_upto_region 1 with fail
  rw [← HW.out]
  go_wp2_with fail
  refine CM.out.mono ?_
  rintro e w2 ⟨rfl, rfl⟩
  go_wp2_with fail
  refine IH.out.mono ?_
  rintro e w3 ⟨rfl, ⟨A3, c3, hk3⟩, hb3⟩
  have HK3 := Lib.hid (And.intro hk3 hb3)
  have r3 : BArr w3 w.heap.size 62 zero64 := (hb3.block _ H1.out.res.lt (by have := HLT.out; omega)).trans H1.out.res
  have HR3 := Lib.hid r3
  clear hk3 hb3 r3
  go_upto_region 14 with (with_reducible refine wpList_store_newP w3 _ rfl rfl (.tmp 17) (.tmp 75) rfl rfl (P ++ Q) hPQ rfl ?_)
  have b4 := below_alloc w3 (.cells (bvs (P ++ Q)).toArray 62)
  have g4 := BArr.new w3 62 (P ++ Q)
  obtain ⟨w4, hw4⟩ : ∃ w4, w4 = w3.alloc (.cells (bvs (P ++ Q)).toArray 62) := ⟨_, rfl⟩
  rw [← hw4] at b4 g4 ⊢
  have HK4 := Lib.hid (HK3.out.1.below_ b4)
  have HR4 := Lib.hid (HR3.out.below b4)
  have BU4 := Lib.hid (((But.of_below H1.out.below).trans HK3.out.2).trans (But.of_below b4))
  have G4 := Lib.hid g4
  have S4 := Lib.hid (And.intro HK3.out.2.size (And.intro b4.size (show w3.heap.size < w4.heap.size from by rw [hw4]; simp)))
  clear hw4 b4 g4
  have mv : missV E = .iface 148 (.pointer (some E)) := rfl
  rw [mv]
  have hG := Lib.hid G4.out.at_
  have hR4 := HR4.out
  go_wp2_with (first | with_reducible refine wpList_load_pair rfl (.tmp 17) rfl ⟨w3.heap.size, 0, none⟩ rfl (P ++ Q) hPQ hG.out ?_ | with_reducible refine wpList_store_pair rfl (.tmp 9) (.tmp 79) rfl w.heap.size rfl zero64 (P ++ Q) HZ.out hPQ hR4 rfl ?_)
  have r5 : BArr (w4.setRow w.heap.size (bvs (P ++ Q)).toArray) w.heap.size 62 (P ++ Q) := hR4.setRow _
  refine bodyPost_ret_by (results_cell_tmp (p := 9) (q := 10) (ty := 62) (by kernel_rfl) _ _ ⟨w.heap.size, 0, none⟩ (sv (P ++ Q)) rfl (run_load_pair _ _ _ hPQ r5.at_)) rfl ?_
  have hlt := HLT.out
  have hb0 := HP.out.below.size
  have bu := BU4.out
  exact ⟨rfl, ⟨A3, c3, HK4.out.setRow (by omega) ⟨by omega, by omega, by omega, by omega⟩ _⟩, ⟨bu.os, bu.tape, bu.output, by rw [setRow_size]; exact bu.size, fun b hb hne => (Go.setRow_other _ _ _ _ (by omega)).trans (bu.block b hb hne)⟩⟩

set_option maxRecDepth 100000 in
set_option maxHeartbeats 4000000 in
theorem klead_low_go {P Q s : List Nat} {ev : Value} {j1 j' : Nat} (h : KIn B w ab lb nb gb n j A c ys a) (hPl : P.length = 32) (hQl : Q.length = 32) (h2 : 2 ≤ size) (hz : size < 18446744073709551616) (hfs : from_ < size) (ha : from_ ≤ cutN size)
    (ih : ∀ w' : World, KIn B w' ab lb nb gb n j A c ys a → Calls Tryd.prog 70 #[.int .u64 (from_ : Nat), .int .u64 ((cutN size) : Nat), .bool edge, .pointer (some ⟨ab, 0, none⟩), .pointer (some ⟨nb, 0, none⟩), .pointer (some ⟨gb, 0, none⟩)] w' (Led B w' ab lb nb gb n ys a P Q (.nilIface) j1))
    (cn : ∀ (w' : World) (A' : Option Addr) (c' : Nat), KIn B w' ab lb nb gb n j1 A' c' ys a → Calls Tryd.prog 69 #[.pointer (some ⟨lb, 0, none⟩)] w' fun e w'' => e = .returned (.tuple #[sv s, ev]) ∧ (∃ A' c', KIn B w'' ab lb nb gb n j' A' c' ys a) ∧ But (· = lb) w' w'')
    (hsl : s.length = 32) (hsb : ∀ x ∈ s, x < 256) (hQb : ∀ x ∈ Q, x < 256) (hk : Knows B) (hs : Starts B) :
    Calls Tryd.prog 70 #[.int .u64 (from_ : Int), .int .u64 (size : Int), .bool edge, .pointer (some ⟨ab, 0, none⟩), .pointer (some ⟨nb, 0, none⟩), .pointer (some ⟨gb, 0, none⟩)] w (Led B w ab lb nb gb n ys a P (nodeL Q s) (ev) j') := by
  have e0 : (bvs zero64).toArray = #[.int .u8 0, .int .u8 0, .int .u8 0, .int .u8 0, .int .u8 0, .int .u8 0, .int .u8 0, .int .u8 0, .int .u8 0, .int .u8 0, .int .u8 0, .int .u8 0, .int .u8 0, .int .u8 0, .int .u8 0, .int .u8 0, .int .u8 0, .int .u8 0, .int .u8 0, .int .u8 0, .int .u8 0, .int .u8 0, .int .u8 0, .int .u8 0, .int .u8 0, .int .u8 0, .int .u8 0, .int .u8 0, .int .u8 0, .int .u8 0, .int .u8 0, .int .u8 0, .int .u8 0, .int .u8 0, .int .u8 0, .int .u8 0, .int .u8 0, .int .u8 0, .int .u8 0, .int .u8 0, .int .u8 0, .int .u8 0, .int .u8 0, .int .u8 0, .int .u8 0, .int .u8 0, .int .u8 0, .int .u8 0, .int .u8 0, .int .u8 0, .int .u8 0, .int .u8 0, .int .u8 0, .int .u8 0, .int .u8 0, .int .u8 0, .int .u8 0, .int .u8 0, .int .u8 0, .int .u8 0, .int .u8 0, .int .u8 0, .int .u8 0, .int .u8 0] := rfl
  have h1 := kleadIn_of w
  rw [e0] at h1
  clear e0
  obtain ⟨w1, hw1⟩ : ∃ w1, w1 = w.alloc (.cells #[.int .u8 0, .int .u8 0, .int .u8 0, .int .u8 0, .int .u8 0, .int .u8 0, .int .u8 0, .int .u8 0, .int .u8 0, .int .u8 0, .int .u8 0, .int .u8 0, .int .u8 0, .int .u8 0, .int .u8 0, .int .u8 0, .int .u8 0, .int .u8 0, .int .u8 0, .int .u8 0, .int .u8 0, .int .u8 0, .int .u8 0, .int .u8 0, .int .u8 0, .int .u8 0, .int .u8 0, .int .u8 0, .int .u8 0, .int .u8 0, .int .u8 0, .int .u8 0, .int .u8 0, .int .u8 0, .int .u8 0, .int .u8 0, .int .u8 0, .int .u8 0, .int .u8 0, .int .u8 0, .int .u8 0, .int .u8 0, .int .u8 0, .int .u8 0, .int .u8 0, .int .u8 0, .int .u8 0, .int .u8 0, .int .u8 0, .int .u8 0, .int .u8 0, .int .u8 0, .int .u8 0, .int .u8 0, .int .u8 0, .int .u8 0, .int .u8 0, .int .u8 0, .int .u8 0, .int .u8 0, .int .u8 0, .int .u8 0, .int .u8 0, .int .u8 0] 62) := ⟨_, rfl⟩
  rw [← hw1] at h1
  have H1 := Lib.hid h1
  have HW := Lib.hid hw1
  have HP := Lib.hid h
  have HLT := Lib.hid (And.intro h.lt (And.intro h1.size h1.below.size))
  have HZ := Lib.hid (show zero64.length = 64 from rfl)
  have hcl := cutN_lt h2
  have hcp := cutN_pos size
  obtain ⟨k, hk0⟩ : ∃ k, cutN size = k := ⟨_, rfl⟩
  rw [hk0] at hcl hcp ha ih
  have ns : ((from_ : Int) == (size : Int)) = false := by simp; omega
  have hle : (from_ : Int) ≤ (k : Int) := by omega
  have CM := Lib.hid (kleft_any size w1 h2 hz)
  rw [hk0] at CM
  have K1 := h.below_ h1.below
  have l1 := K1.led.cell
  unfold leadsK at l1
  have IH := Lib.hid (ih w1 K1)
  have hPQ : (P ++ Q).length = 64 := by rw [List.length_append]; omega
  have HCN := Lib.hid cn
  have HB := Lib.hid (And.intro hsl (And.intro hsb (And.intro hQb (And.intro hk hs))))
  have HPL := Lib.hid (And.intro hPl hQl)
  clear h h1 hw1 ih K1 hk0 hcl hcp h2 hz hfs ha cn hsb hQb hk hs
  go_enter Tryd.func70, Tryd.ntmps70
  go_upto_region 1 with fail
  rw [← HW.out]
  go_wp2_with fail
  refine CM.out.mono ?_
  rintro e w2 ⟨rfl, rfl⟩
  go_wp2_with fail
  refine IH.out.mono ?_
  rintro e w3 ⟨rfl, ⟨A3, c3, hk3⟩, hb3⟩
  have HK3 := Lib.hid (And.intro hk3 hb3)
  have r3 : BArr w3 w.heap.size 62 zero64 := (hb3.block _ H1.out.res.lt (by have := HLT.out; omega)).trans H1.out.res
  have HR3 := Lib.hid r3
  clear hk3 hb3 r3
  go_upto_region 9 with (with_reducible refine wpList_store_newP w3 _ rfl rfl (.tmp 14) (.tmp 47) rfl rfl (P ++ Q) hPQ rfl ?_)
  have b4 := below_alloc w3 (.cells (bvs (P ++ Q)).toArray 62)
  have g4 := BArr.new w3 62 (P ++ Q)
  obtain ⟨w4, hw4⟩ : ∃ w4, w4 = w3.alloc (.cells (bvs (P ++ Q)).toArray 62) := ⟨_, rfl⟩
  rw [← hw4] at b4 g4 ⊢
  have HK4 := Lib.hid (HK3.out.1.below_ b4)
  have HR4 := Lib.hid (HR3.out.below b4)
  have BU4 := Lib.hid (((But.of_below H1.out.below).trans HK3.out.2).trans (But.of_below b4))
  have G4 := Lib.hid g4
  have S4 := Lib.hid (And.intro HK3.out.2.size (And.intro b4.size (show w3.heap.size < w4.heap.size from by rw [hw4]; simp)))
  clear hw4 b4 g4
  have n4 := HK4.out.nxt.cell
  unfold takesK at n4
  have CN := Lib.hid (HCN.out w4 A3 c3 HK4.out)
  go_wp2_with fail
  refine CN.out.mono ?_
  rintro e w5 ⟨rfl, ⟨A5, c5, hk5⟩, hb5⟩
  have s5 := S4.out
  have l5 := HLT.out
  have HK5 := Lib.hid hk5
  have HR5 := Lib.hid ((hb5.block _ HR4.out.lt (by omega)).trans HR4.out)
  have G5 := Lib.hid ((hb5.block _ G4.out.lt (by omega)).trans G4.out)
  have BU5 := Lib.hid (BU4.out.trans hb5)
  have S5 := Lib.hid hb5.size
  clear hk5 hb5 s5 l5
  go_upto_region 12 with (with_reducible refine wpList_store_new w5 _ rfl rfl (.tmp 16) (.tmp 56) rfl rfl s hsl rfl ?_)
  have b6 := below_alloc w5 (.cells (bvs s).toArray 36)
  have g6 := BArr.new w5 36 s
  obtain ⟨w6, hw6⟩ : ∃ w6, w6 = w5.alloc (.cells (bvs s).toArray 36) := ⟨_, rfl⟩
  rw [← hw6] at b6 g6 ⊢
  have HK6 := Lib.hid (HK5.out.below_ b6)
  have HR6 : BArr w6 w.heap.size 62 zero64 := BArr.below HR5.out b6
  have BU6 := Lib.hid (BU5.out.trans (But.of_below b6))
  have G6 : BArr w6 w3.heap.size 62 (P ++ Q) := BArr.below G5.out b6
  have S6 := Lib.hid (And.intro S4.out (And.intro S5.out (show w5.heap.size < w6.heap.size from by rw [hw6]; simp)))
  have KS := Lib.hid (fun (W : World) (hW : Below w6.heap.size w6 W) => And.intro (HB.out.2.2.2.1.below (below_on HK6.out.below (Nat.le_refl _) hW)) (HB.out.2.2.2.2.below (below_on HK6.out.below (Nat.le_refl _) hW)))
  clear hw6 b6
  obtain ⟨pb, hpb⟩ : ∃ pb, w3.heap.size = pb := ⟨_, rfl⟩
  obtain ⟨sb, hsb0⟩ : ∃ sb, w5.heap.size = sb := ⟨_, rfl⟩
  have HPB0 := Lib.hid (And.intro hpb hsb0)
  rw [hpb] at G6
  rw [hsb0] at g6
  rw [hpb, hsb0]
  clear hpb hsb0
  have hS0 : BArr w6.drew pb 62 (P ++ Q) ∧ BArr w6.drew sb 36 s := ⟨G6, g6⟩
  have hB0 : Below w6.heap.size w6 w6.drew := (Below.refl _ _).drew
  refine wp_region_held (S := fun W => BArr W pb 62 (P ++ Q) ∧ BArr W sb 36 s) (by kernel_rfl) ?_
  change wpAnyH _ _ _ _ _ _ _ _ w6.drew
  refine' wpAnyH_take (i := 0) (oi := _) (v := _) ?hi0 (by kernel_rfl) ?hf0 ?hr0 ?hQ0 ?hy0 hS0 ?rest0
  case hi0 => (simp only [List.getElem?_toArray, List.getElem?_cons_zero]; rfl)
  case hf0 => kernel_rfl
  case hr0 => kernel_rfl
  case hQ0 => exact fun _ _ _ h => h
  case hy0 => refine Or.inl ⟨by rfl, ?_⟩; intro W hSw; go_simp; try with_reducible rfl
  try simp only [Act.put, List.setIfInBounds_toArray, List.set_cons_zero, List.set_cons_succ]
  refine' wpAnyH_take (i := 1) (oi := _) (v := sv P) ?hi1 (by kernel_rfl) ?hf1 ?hr1 ?hQ1 ?hy1 hS0 ?rest1
  case hi1 => (simp only [List.getElem?_toArray, List.getElem?_cons_zero, List.getElem?_cons_succ]; rfl)
  case hf1 => kernel_rfl
  case hr1 => kernel_rfl
  case hQ1 => exact fun _ _ _ h => h
  case hy1 => exact yields_sum (by rfl) (.tmp 58) (by rfl) _ (by rfl) P hPl (fun W hSw => hSw.1.first)
  try simp only [Act.put, List.setIfInBounds_toArray, List.set_cons_zero, List.set_cons_succ]
  refine' wpAnyH_take (i := 2) (oi := _) (v := _) ?hi2 (by kernel_rfl) ?hf2 ?hr2 ?hQ2 ?hy2 hS0 ?rest2
  case hi2 => (simp only [List.getElem?_toArray, List.getElem?_cons_zero, List.getElem?_cons_succ]; rfl)
  case hf2 => kernel_rfl
  case hr2 => kernel_rfl
  case hQ2 => exact fun _ _ _ h => h
  case hy2 => refine Or.inl ⟨by rfl, ?_⟩; intro W hSw; go_simp; try with_reducible rfl
  try simp only [Act.put, List.setIfInBounds_toArray, List.set_cons_zero, List.set_cons_succ]
  refine' wpAnyH_take (i := 3) (oi := _) (v := sv Q) ?hi3 (by kernel_rfl) ?hf3 ?hr3 ?hQ3 ?hy3 hS0 ?rest3
  case hi3 => (simp only [List.getElem?_toArray, List.getElem?_cons_zero, List.getElem?_cons_succ]; rfl)
  case hf3 => kernel_rfl
  case hr3 => kernel_rfl
  case hQ3 => exact fun _ _ _ h => h
  case hy3 => exact yields_sum (by rfl) (.tmp 60) (by rfl) _ (by rfl) Q hQl (fun W hSw => (hSw.1.second hPl))
  try simp only [Act.put, List.setIfInBounds_toArray, List.set_cons_zero, List.set_cons_succ]
  refine' wpAnyH_take (i := 4) (oi := _) (v := sv s) ?hi4 (by kernel_rfl) ?hf4 ?hr4 ?hQ4 ?hy4 hS0 ?rest4
  case hi4 => (simp only [List.getElem?_toArray, List.getElem?_cons_zero, List.getElem?_cons_succ]; rfl)
  case hf4 => kernel_rfl
  case hr4 => kernel_rfl
  case hQ4 => exact fun _ _ _ h => h
  case hy4 => exact yields_sum (by rfl) (.tmp 16) (by rfl) _ (by rfl) s hsl (fun W hSw => hSw.2.at_)
  try simp only [Act.put, List.setIfInBounds_toArray, List.set_cons_zero, List.set_cons_succ]
  refine' wpAnyH_take (i := 7) (oi := _) (v := _) ?hi7 (by kernel_rfl) ?hf7 ?hr7 ?hQ7 ?hy7 hS0 ?rest7
  case hi7 => (simp only [List.getElem?_toArray, List.getElem?_cons_zero, List.getElem?_cons_succ]; rfl)
  case hf7 => kernel_rfl
  case hr7 => kernel_rfl
  case hQ7 => exact fun _ _ _ h => h
  case hy7 => refine Or.inl ⟨by rfl, ?_⟩; intro W hSw; go_simp; try with_reducible rfl
  try simp only [Act.put, List.setIfInBounds_toArray, List.set_cons_zero, List.set_cons_succ]
  refine wpAnyH_ready (rs := [5]) (by kernel_rfl) (by simp) ?_
  refine' AllReadyH.cons (o := _) ?hi5 (fun K hK => ?_) AllReadyH.nil
  case hi5 => (simp only [List.getElem?_toArray, List.getElem?_cons_zero, List.getElem?_cons_succ]; rfl)
  rw [if_pos (by rfl)]
  go_simp
  refine (node_any Q s w6.drew hQl hsl HB.out.2.2.1 HB.out.2.1 (KS.out _ hB0).1 (KS.out _ hB0).2).mono ?_
  rintro e W1 ⟨rfl, hb1⟩
  have hS1 := And.intro (hS0.1.below hb1) (hS0.2.below hb1)
  have hB1 := below_on hB0 (Nat.le_refl _) hb1
  refine hK.out _ _ hS1 (fun _ => ?_)
  clear hK K
  try simp only [Act.put, List.setIfInBounds_toArray, List.set_cons_zero, List.set_cons_succ]
  refine' wpAnyH_take (i := 6) (oi := _) (v := sv (P ++ nodeL Q s)) ?hi6 (by kernel_rfl) ?hf6 ?hr6 ?hQ6 ?hy6 hS1 ?rest6
  case hi6 => (simp only [List.getElem?_toArray, List.getElem?_cons_zero, List.getElem?_cons_succ]; rfl)
  case hf6 => kernel_rfl
  case hr6 => kernel_rfl
  case hQ6 => exact fun _ _ _ h => h
  case hy6 => exact yields_build_pair (by rfl) (.tmp 59) (.tmp 63) (by rfl) P (nodeL Q s) (by rfl) (by rfl) hPl (nodeL_length _ _)
  try simp only [Act.put, List.setIfInBounds_toArray, List.set_cons_zero, List.set_cons_succ]
  have hPR : (P ++ (nodeL Q s)).length = 64 := by rw [List.length_append]; have := nodeL_length; simp only [*]
  have RW : BArr W1 w.heap.size 62 zero64 := HR6.below hB1
  refine wpAnyH_ready (rs := [8]) (by kernel_rfl) (by simp) ?_
  refine' AllReadyH.cons (o := _) ?hi8 (fun K hK => ?_) AllReadyH.nil
  case hi8 => (simp only [List.getElem?_toArray, List.getElem?_cons_zero, List.getElem?_cons_succ]; rfl)
  rw [if_pos (by rfl)]
  refine step_store_pair (.tmp 9) (.tmp 64) rfl w.heap.size rfl zero64 (P ++ (nodeL Q s)) HZ.out hPR RW rfl ?_
  have s6 := S6.out
  have l6 := HLT.out
  have r7 : BArr (W1.setRow w.heap.size (bvs (P ++ (nodeL Q s))).toArray) w.heap.size 62 (P ++ (nodeL Q s)) := RW.setRow _
  have hS9 : BArr (W1.setRow w.heap.size (bvs (P ++ (nodeL Q s))).toArray) pb 62 (P ++ Q) ∧ BArr (W1.setRow w.heap.size (bvs (P ++ (nodeL Q s))).toArray) sb 36 s :=
    ⟨hS1.1.setRow_other _ (by have := HPB0.out; omega) _, hS1.2.setRow_other _ (by have := HPB0.out; omega) _⟩
  refine hK.out _ _ hS9 (fun _ => ?_)
  clear hK K
  refine' wpAnyH_take (i := 9) (oi := _) (v := _) ?hi9 (by kernel_rfl) ?hf9 ?hr9 ?hQ9 ?hy9 hS9 ?rest9
  case hi9 => (simp only [List.getElem?_toArray, List.getElem?_cons_zero, List.getElem?_cons_succ]; rfl)
  case hf9 => kernel_rfl
  case hr9 => kernel_rfl
  case hQ9 => exact fun _ _ _ h => h
  case hy9 => refine Or.inl ⟨by rfl, ?_⟩; intro W hSw; go_simp; try with_reducible rfl
  try simp only [Act.put, List.setIfInBounds_toArray, List.set_cons_zero, List.set_cons_succ]
  refine wpAnyH_done (by kernel_rfl) ?_ _
  go_wp2
  refine bodyPost_ret_by (results_cell_tmp (p := 9) (q := 10) (ty := 62) (by kernel_rfl) _ _ ⟨w.heap.size, 0, none⟩ (sv (P ++ (nodeL Q s))) rfl (run_load_pair _ _ _ hPR r7.at_)) rfl ?_
  have hb0 := HP.out.below.size
  have bu := BU6.out.trans (But.of_below hB1)
  exact ⟨rfl, ⟨A5, c5, (HK6.out.below_ hB1).setRow (by omega) ⟨by omega, by omega, by omega, by omega⟩ _⟩, ⟨bu.os, bu.tape, bu.output, by rw [setRow_size]; exact bu.size, fun b hb hne => (Go.setRow_other _ _ _ _ (by omega)).trans (bu.block b hb hne)⟩⟩

set_option maxRecDepth 100000 in
set_option maxHeartbeats 4000000 in
theorem klead_high_go {P Q s : List Nat} {ev : Value} {j1 j' : Nat} (h : KIn B w ab lb nb gb n j A c ys a) (hPl : P.length = 32) (hQl : Q.length = 32) (h2 : 2 ≤ size) (hz : size < 18446744073709551616) (hfs : from_ < size) (ha : ¬ from_ ≤ cutN size)
    (ih : ∀ w' : World, KIn B w' ab lb nb gb n j A c ys a → Calls Tryd.prog 70 #[.int .u64 ((from_ - cutN size) : Nat), .int .u64 ((size - cutN size) : Nat), .bool false, .pointer (some ⟨ab, 0, none⟩), .pointer (some ⟨nb, 0, none⟩), .pointer (some ⟨gb, 0, none⟩)] w' (Led B w' ab lb nb gb n ys a P Q (.nilIface) j1))
    (cn : ∀ (w' : World) (A' : Option Addr) (c' : Nat), KIn B w' ab lb nb gb n j1 A' c' ys a → Calls Tryd.prog 69 #[.pointer (some ⟨lb, 0, none⟩)] w' fun e w'' => e = .returned (.tuple #[sv s, ev]) ∧ (∃ A' c', KIn B w'' ab lb nb gb n j' A' c' ys a) ∧ But (· = lb) w' w'')
    (hsl : s.length = 32) (hsb : ∀ x ∈ s, x < 256) (hPb : ∀ x ∈ P, x < 256) (hQb : ∀ x ∈ Q, x < 256) (hk : Knows B) (hs : Starts B) :
    Calls Tryd.prog 70 #[.int .u64 (from_ : Int), .int .u64 (size : Int), .bool edge, .pointer (some ⟨ab, 0, none⟩), .pointer (some ⟨nb, 0, none⟩), .pointer (some ⟨gb, 0, none⟩)] w (Led B w ab lb nb gb n ys a (nodeL s P) (nodeL s Q) (ev) j') := by
  have e0 : (bvs zero64).toArray = #[.int .u8 0, .int .u8 0, .int .u8 0, .int .u8 0, .int .u8 0, .int .u8 0, .int .u8 0, .int .u8 0, .int .u8 0, .int .u8 0, .int .u8 0, .int .u8 0, .int .u8 0, .int .u8 0, .int .u8 0, .int .u8 0, .int .u8 0, .int .u8 0, .int .u8 0, .int .u8 0, .int .u8 0, .int .u8 0, .int .u8 0, .int .u8 0, .int .u8 0, .int .u8 0, .int .u8 0, .int .u8 0, .int .u8 0, .int .u8 0, .int .u8 0, .int .u8 0, .int .u8 0, .int .u8 0, .int .u8 0, .int .u8 0, .int .u8 0, .int .u8 0, .int .u8 0, .int .u8 0, .int .u8 0, .int .u8 0, .int .u8 0, .int .u8 0, .int .u8 0, .int .u8 0, .int .u8 0, .int .u8 0, .int .u8 0, .int .u8 0, .int .u8 0, .int .u8 0, .int .u8 0, .int .u8 0, .int .u8 0, .int .u8 0, .int .u8 0, .int .u8 0, .int .u8 0, .int .u8 0, .int .u8 0, .int .u8 0, .int .u8 0, .int .u8 0] := rfl
  have h1 := kleadIn_of w
  rw [e0] at h1
  clear e0
  obtain ⟨w1, hw1⟩ : ∃ w1, w1 = w.alloc (.cells #[.int .u8 0, .int .u8 0, .int .u8 0, .int .u8 0, .int .u8 0, .int .u8 0, .int .u8 0, .int .u8 0, .int .u8 0, .int .u8 0, .int .u8 0, .int .u8 0, .int .u8 0, .int .u8 0, .int .u8 0, .int .u8 0, .int .u8 0, .int .u8 0, .int .u8 0, .int .u8 0, .int .u8 0, .int .u8 0, .int .u8 0, .int .u8 0, .int .u8 0, .int .u8 0, .int .u8 0, .int .u8 0, .int .u8 0, .int .u8 0, .int .u8 0, .int .u8 0, .int .u8 0, .int .u8 0, .int .u8 0, .int .u8 0, .int .u8 0, .int .u8 0, .int .u8 0, .int .u8 0, .int .u8 0, .int .u8 0, .int .u8 0, .int .u8 0, .int .u8 0, .int .u8 0, .int .u8 0, .int .u8 0, .int .u8 0, .int .u8 0, .int .u8 0, .int .u8 0, .int .u8 0, .int .u8 0, .int .u8 0, .int .u8 0, .int .u8 0, .int .u8 0, .int .u8 0, .int .u8 0, .int .u8 0, .int .u8 0, .int .u8 0, .int .u8 0] 62) := ⟨_, rfl⟩
  rw [← hw1] at h1
  have H1 := Lib.hid h1
  have HW := Lib.hid hw1
  have HP := Lib.hid h
  have HLT := Lib.hid (And.intro h.lt (And.intro h1.size h1.below.size))
  have HZ := Lib.hid (show zero64.length = 64 from rfl)
  have hcl := cutN_lt h2
  have hcp := cutN_pos size
  obtain ⟨k, hk0⟩ : ∃ k, cutN size = k := ⟨_, rfl⟩
  rw [hk0] at hcl hcp ha ih
  have ns : ((from_ : Int) == (size : Int)) = false := by simp; omega
  have hle : ¬ (from_ : Int) ≤ (k : Int) := by omega
  obtain ⟨d, hd0⟩ : ∃ d, from_ - k = d := ⟨_, rfl⟩
  obtain ⟨m, hm0⟩ : ∃ m, size - k = m := ⟨_, rfl⟩
  rw [hd0, hm0] at ih
  have ea : IntKind.u64.wrap ((from_ : Int) - (k : Int)) = (d : Int) := by rw [IntKind.wrap_u64]; omega
  have em : IntKind.u64.wrap ((size : Int) - (k : Int)) = (m : Int) := by rw [IntKind.wrap_u64]; omega
  have CM := Lib.hid (kleft_any size w1 h2 hz)
  rw [hk0] at CM
  have K1 := h.below_ h1.below
  have l1 := K1.led.cell
  unfold leadsK at l1
  have IH := Lib.hid (ih w1 K1)
  have hPQ : (P ++ Q).length = 64 := by rw [List.length_append]; omega
  have HCN := Lib.hid cn
  have HB := Lib.hid (And.intro hsl (And.intro hsb (And.intro hQb (And.intro hk hs))))
  have HPL := Lib.hid (And.intro hPl hQl)
  have HPB := Lib.hid hPb
  clear h h1 hw1 ih K1 hk0 hcl hcp h2 hz hfs ha cn hsb hQb hk hs hPb hd0 hm0
  go_enter Tryd.func70, Tryd.ntmps70
  go_upto_region 1 with fail
  rw [← HW.out]
  go_wp2_with fail
  refine CM.out.mono ?_
  rintro e w2 ⟨rfl, rfl⟩
  go_wp2_with fail
  refine IH.out.mono ?_
  rintro e w3 ⟨rfl, ⟨A3, c3, hk3⟩, hb3⟩
  have HK3 := Lib.hid (And.intro hk3 hb3)
  have r3 : BArr w3 w.heap.size 62 zero64 := (hb3.block _ H1.out.res.lt (by have := HLT.out; omega)).trans H1.out.res
  have HR3 := Lib.hid r3
  clear hk3 hb3 r3
  go_upto_region 14 with (with_reducible refine wpList_store_newP w3 _ rfl rfl (.tmp 17) (.tmp 75) rfl rfl (P ++ Q) hPQ rfl ?_)
  have b4 := below_alloc w3 (.cells (bvs (P ++ Q)).toArray 62)
  have g4 := BArr.new w3 62 (P ++ Q)
  obtain ⟨w4, hw4⟩ : ∃ w4, w4 = w3.alloc (.cells (bvs (P ++ Q)).toArray 62) := ⟨_, rfl⟩
  rw [← hw4] at b4 g4 ⊢
  have HK4 := Lib.hid (HK3.out.1.below_ b4)
  have HR4 := Lib.hid (HR3.out.below b4)
  have BU4 := Lib.hid (((But.of_below H1.out.below).trans HK3.out.2).trans (But.of_below b4))
  have G4 := Lib.hid g4
  have S4 := Lib.hid (And.intro HK3.out.2.size (And.intro b4.size (show w3.heap.size < w4.heap.size from by rw [hw4]; simp)))
  clear hw4 b4 g4
  have n4 := HK4.out.nxt.cell
  unfold takesK at n4
  have CN := Lib.hid (HCN.out w4 A3 c3 HK4.out)
  go_wp2_with fail
  refine CN.out.mono ?_
  rintro e w5 ⟨rfl, ⟨A5, c5, hk5⟩, hb5⟩
  have s5 := S4.out
  have l5 := HLT.out
  have HK5 := Lib.hid hk5
  have HR5 := Lib.hid ((hb5.block _ HR4.out.lt (by omega)).trans HR4.out)
  have G5 := Lib.hid ((hb5.block _ G4.out.lt (by omega)).trans G4.out)
  have BU5 := Lib.hid (BU4.out.trans hb5)
  have S5 := Lib.hid hb5.size
  clear hk5 hb5 s5 l5
  go_upto_region 17 with (with_reducible refine wpList_store_new w5 _ rfl rfl (.tmp 19) (.tmp 84) rfl rfl s hsl rfl ?_)
  have b6 := below_alloc w5 (.cells (bvs s).toArray 36)
  have g6 := BArr.new w5 36 s
  obtain ⟨w6, hw6⟩ : ∃ w6, w6 = w5.alloc (.cells (bvs s).toArray 36) := ⟨_, rfl⟩
  rw [← hw6] at b6 g6 ⊢
  have HK6 := Lib.hid (HK5.out.below_ b6)
  have HR6 : BArr w6 w.heap.size 62 zero64 := BArr.below HR5.out b6
  have BU6 := Lib.hid (BU5.out.trans (But.of_below b6))
  have G6 : BArr w6 w3.heap.size 62 (P ++ Q) := BArr.below G5.out b6
  have S6 := Lib.hid (And.intro S4.out (And.intro S5.out (show w5.heap.size < w6.heap.size from by rw [hw6]; simp)))
  have KS := Lib.hid (fun (W : World) (hW : Below w6.heap.size w6 W) => And.intro (HB.out.2.2.2.1.below (below_on HK6.out.below (Nat.le_refl _) hW)) (HB.out.2.2.2.2.below (below_on HK6.out.below (Nat.le_refl _) hW)))
  clear hw6 b6
  obtain ⟨pb, hpb⟩ : ∃ pb, w3.heap.size = pb := ⟨_, rfl⟩
  obtain ⟨sb, hsb0⟩ : ∃ sb, w5.heap.size = sb := ⟨_, rfl⟩
  have HPB0 := Lib.hid (And.intro hpb hsb0)
  rw [hpb] at G6
  rw [hsb0] at g6
  rw [hpb, hsb0]
  clear hpb hsb0
  have hS0 : BArr w6.drew pb 62 (P ++ Q) ∧ BArr w6.drew sb 36 s := ⟨G6, g6⟩
  have hB0 : Below w6.heap.size w6 w6.drew := (Below.refl _ _).drew
  refine wp_region_held (S := fun W => BArr W pb 62 (P ++ Q) ∧ BArr W sb 36 s) (by kernel_rfl) ?_
  change wpAnyH _ _ _ _ _ _ _ _ w6.drew
  refine' wpAnyH_take (i := 0) (oi := _) (v := sv s) ?hi0 (by kernel_rfl) ?hf0 ?hr0 ?hQ0 ?hy0 hS0 ?rest0
  case hi0 => (simp only [List.getElem?_toArray, List.getElem?_cons_zero]; rfl)
  case hf0 => kernel_rfl
  case hr0 => kernel_rfl
  case hQ0 => exact fun _ _ _ h => h
  case hy0 => exact yields_sum (by rfl) (.tmp 19) (by rfl) _ (by rfl) s hsl (fun W hSw => hSw.2.at_)
  try simp only [Act.put, List.setIfInBounds_toArray, List.set_cons_zero, List.set_cons_succ]
  refine' wpAnyH_take (i := 1) (oi := _) (v := _) ?hi1 (by kernel_rfl) ?hf1 ?hr1 ?hQ1 ?hy1 hS0 ?rest1
  case hi1 => (simp only [List.getElem?_toArray, List.getElem?_cons_zero, List.getElem?_cons_succ]; rfl)
  case hf1 => kernel_rfl
  case hr1 => kernel_rfl
  case hQ1 => exact fun _ _ _ h => h
  case hy1 => refine Or.inl ⟨by rfl, ?_⟩; intro W hSw; go_simp; try with_reducible rfl
  try simp only [Act.put, List.setIfInBounds_toArray, List.set_cons_zero, List.set_cons_succ]
  refine' wpAnyH_take (i := 2) (oi := _) (v := sv P) ?hi2 (by kernel_rfl) ?hf2 ?hr2 ?hQ2 ?hy2 hS0 ?rest2
  case hi2 => (simp only [List.getElem?_toArray, List.getElem?_cons_zero, List.getElem?_cons_succ]; rfl)
  case hf2 => kernel_rfl
  case hr2 => kernel_rfl
  case hQ2 => exact fun _ _ _ h => h
  case hy2 => exact yields_sum (by rfl) (.tmp 87) (by rfl) _ (by rfl) P hPl (fun W hSw => hSw.1.first)
  try simp only [Act.put, List.setIfInBounds_toArray, List.set_cons_zero, List.set_cons_succ]
  refine' wpAnyH_take (i := 4) (oi := _) (v := sv s) ?hi4 (by kernel_rfl) ?hf4 ?hr4 ?hQ4 ?hy4 hS0 ?rest4
  case hi4 => (simp only [List.getElem?_toArray, List.getElem?_cons_zero, List.getElem?_cons_succ]; rfl)
  case hf4 => kernel_rfl
  case hr4 => kernel_rfl
  case hQ4 => exact fun _ _ _ h => h
  case hy4 => exact yields_sum (by rfl) (.tmp 19) (by rfl) _ (by rfl) s hsl (fun W hSw => hSw.2.at_)
  try simp only [Act.put, List.setIfInBounds_toArray, List.set_cons_zero, List.set_cons_succ]
  refine' wpAnyH_take (i := 5) (oi := _) (v := _) ?hi5 (by kernel_rfl) ?hf5 ?hr5 ?hQ5 ?hy5 hS0 ?rest5
  case hi5 => (simp only [List.getElem?_toArray, List.getElem?_cons_zero, List.getElem?_cons_succ]; rfl)
  case hf5 => kernel_rfl
  case hr5 => kernel_rfl
  case hQ5 => exact fun _ _ _ h => h
  case hy5 => refine Or.inl ⟨by rfl, ?_⟩; intro W hSw; go_simp; try with_reducible rfl
  try simp only [Act.put, List.setIfInBounds_toArray, List.set_cons_zero, List.set_cons_succ]
  refine' wpAnyH_take (i := 6) (oi := _) (v := sv Q) ?hi6 (by kernel_rfl) ?hf6 ?hr6 ?hQ6 ?hy6 hS0 ?rest6
  case hi6 => (simp only [List.getElem?_toArray, List.getElem?_cons_zero, List.getElem?_cons_succ]; rfl)
  case hf6 => kernel_rfl
  case hr6 => kernel_rfl
  case hQ6 => exact fun _ _ _ h => h
  case hy6 => exact yields_sum (by rfl) (.tmp 91) (by rfl) _ (by rfl) Q hQl (fun W hSw => (hSw.1.second hPl))
  try simp only [Act.put, List.setIfInBounds_toArray, List.set_cons_zero, List.set_cons_succ]
  refine' wpAnyH_take (i := 9) (oi := _) (v := _) ?hi9 (by kernel_rfl) ?hf9 ?hr9 ?hQ9 ?hy9 hS0 ?rest9
  case hi9 => (simp only [List.getElem?_toArray, List.getElem?_cons_zero, List.getElem?_cons_succ]; rfl)
  case hf9 => kernel_rfl
  case hr9 => kernel_rfl
  case hQ9 => exact fun _ _ _ h => h
  case hy9 => refine Or.inl ⟨by rfl, ?_⟩; intro W hSw; go_simp; try with_reducible rfl
  try simp only [Act.put, List.setIfInBounds_toArray, List.set_cons_zero, List.set_cons_succ]
  refine wpAnyH_ready (rs := [3]) (by kernel_rfl) (by simp) ?_
  refine' AllReadyH.cons (o := _) ?hi3 (fun K hK => ?_) AllReadyH.nil
  case hi3 => (simp only [List.getElem?_toArray, List.getElem?_cons_zero, List.getElem?_cons_succ]; rfl)
  rw [if_pos (by rfl)]
  go_simp
  refine (node_any s P w6.drew hsl hPl HB.out.2.1 HPB.out (KS.out _ hB0).1 (KS.out _ hB0).2).mono ?_
  rintro e W1 ⟨rfl, hb1⟩
  have hS1 := And.intro (hS0.1.below hb1) (hS0.2.below hb1)
  have hB1 := below_on hB0 (Nat.le_refl _) hb1
  refine hK.out _ _ hS1 (fun _ => ?_)
  clear hK K
  try simp only [Act.put, List.setIfInBounds_toArray, List.set_cons_zero, List.set_cons_succ]
  refine wpAnyH_ready (rs := [7]) (by kernel_rfl) (by simp) ?_
  refine' AllReadyH.cons (o := _) ?hi7 (fun K hK => ?_) AllReadyH.nil
  case hi7 => (simp only [List.getElem?_toArray, List.getElem?_cons_zero, List.getElem?_cons_succ]; rfl)
  rw [if_pos (by rfl)]
  go_simp
  refine (node_any s Q W1 hsl hQl HB.out.2.1 HB.out.2.2.1 (KS.out _ hB1).1 (KS.out _ hB1).2).mono ?_
  rintro e W2 ⟨rfl, hb2⟩
  have hS2 := And.intro (hS1.1.below hb2) (hS1.2.below hb2)
  have hB2 := below_on hB1 (Nat.le_refl _) hb2
  refine hK.out _ _ hS2 (fun _ => ?_)
  clear hK K
  try simp only [Act.put, List.setIfInBounds_toArray, List.set_cons_zero, List.set_cons_succ]
  refine' wpAnyH_take (i := 8) (oi := _) (v := sv (nodeL s P ++ nodeL s Q)) ?hi8 (by kernel_rfl) ?hf8 ?hr8 ?hQ8 ?hy8 hS2 ?rest8
  case hi8 => (simp only [List.getElem?_toArray, List.getElem?_cons_zero, List.getElem?_cons_succ]; rfl)
  case hf8 => kernel_rfl
  case hr8 => kernel_rfl
  case hQ8 => exact fun _ _ _ h => h
  case hy8 => exact yields_build_pair (by rfl) (.tmp 89) (.tmp 93) (by rfl) (nodeL s P) (nodeL s Q) (by rfl) (by rfl) (nodeL_length _ _) (nodeL_length _ _)
  try simp only [Act.put, List.setIfInBounds_toArray, List.set_cons_zero, List.set_cons_succ]
  have hPR : ((nodeL s P) ++ (nodeL s Q)).length = 64 := by rw [List.length_append]; have := nodeL_length; simp only [*]
  have RW : BArr W2 w.heap.size 62 zero64 := HR6.below hB2
  refine wpAnyH_ready (rs := [10]) (by kernel_rfl) (by simp) ?_
  refine' AllReadyH.cons (o := _) ?hi10 (fun K hK => ?_) AllReadyH.nil
  case hi10 => (simp only [List.getElem?_toArray, List.getElem?_cons_zero, List.getElem?_cons_succ]; rfl)
  rw [if_pos (by rfl)]
  refine step_store_pair (.tmp 9) (.tmp 94) rfl w.heap.size rfl zero64 ((nodeL s P) ++ (nodeL s Q)) HZ.out hPR RW rfl ?_
  have s6 := S6.out
  have l6 := HLT.out
  have r7 : BArr (W2.setRow w.heap.size (bvs ((nodeL s P) ++ (nodeL s Q))).toArray) w.heap.size 62 ((nodeL s P) ++ (nodeL s Q)) := RW.setRow _
  have hS9 : BArr (W2.setRow w.heap.size (bvs ((nodeL s P) ++ (nodeL s Q))).toArray) pb 62 (P ++ Q) ∧ BArr (W2.setRow w.heap.size (bvs ((nodeL s P) ++ (nodeL s Q))).toArray) sb 36 s :=
    ⟨hS2.1.setRow_other _ (by have := HPB0.out; omega) _, hS2.2.setRow_other _ (by have := HPB0.out; omega) _⟩
  refine hK.out _ _ hS9 (fun _ => ?_)
  clear hK K
  refine' wpAnyH_take (i := 11) (oi := _) (v := _) ?hi11 (by kernel_rfl) ?hf11 ?hr11 ?hQ11 ?hy11 hS9 ?rest11
  case hi11 => (simp only [List.getElem?_toArray, List.getElem?_cons_zero, List.getElem?_cons_succ]; rfl)
  case hf11 => kernel_rfl
  case hr11 => kernel_rfl
  case hQ11 => exact fun _ _ _ h => h
  case hy11 => refine Or.inl ⟨by rfl, ?_⟩; intro W hSw; go_simp; try with_reducible rfl
  try simp only [Act.put, List.setIfInBounds_toArray, List.set_cons_zero, List.set_cons_succ]
  refine wpAnyH_done (by kernel_rfl) ?_ _
  go_wp2
  refine bodyPost_ret_by (results_cell_tmp (p := 9) (q := 10) (ty := 62) (by kernel_rfl) _ _ ⟨w.heap.size, 0, none⟩ (sv ((nodeL s P) ++ (nodeL s Q))) rfl (run_load_pair _ _ _ hPR r7.at_)) rfl ?_
  have hb0 := HP.out.below.size
  have bu := BU6.out.trans (But.of_below hB2)
  exact ⟨rfl, ⟨A5, c5, (HK6.out.below_ hB2).setRow (by omega) ⟨by omega, by omega, by omega, by omega⟩ _⟩, ⟨bu.os, bu.tape, bu.output, by rw [setRow_size]; exact bu.size, fun b hb hne => (Go.setRow_other _ _ _ _ (by omega)).trans (bu.block b hb hne)⟩⟩

end

end Go.Proofs.YtnaebjdccngeoaaDoor

/-
  links.ends' closure that leads, whole: all sums that it takes are there, or one is missing.
-/
namespace Go.Proofs.YtnaebjdccngeoaaDoor
open Go.RowKit

section
variable {B : World} {ab lb nb gb n : Nat} {ys a : List Nat} {E : Addr}

theorem linkF_len (hlen : ys.length = 32 * n) (hal : a.length = 32) {size from_ j : Nat} {edge : Bool} (hh : j + ldep from_ size edge ≤ n) : (linkF (nth ys) a from_ size edge j).1.length = 32 ∧ (linkF (nth ys) a from_ size edge j).2.length = 32 :=
  linkF_of (P := fun l => l.length = 32) sha_length (nth ys) a hal size from_ edge j fun k hk => nth_length hlen (by omega)
theorem linkF_lt (hy : ∀ x ∈ ys, x < 256) (hab : ∀ x ∈ a, x < 256) (size from_ j : Nat) (edge : Bool) : (∀ x ∈ (linkF (nth ys) a from_ size edge j).1, x < 256) ∧ ∀ x ∈ (linkF (nth ys) a from_ size edge j).2, x < 256 :=
  linkF_of (P := fun l => ∀ x ∈ l, x < 256) sha_lt (nth ys) a hab size from_ edge j fun _ _ => nth_lt hy _

/-- What lead is asked, and what it answers. -/
def KCall (B : World) (ab lb nb gb n : Nat) (ys a : List Nat) (from_ size : Nat) (edge : Bool) (j : Nat) (P Q : List Nat) (ev : Value) (j' : Nat) : Prop :=
  ∀ (A : Option Addr) (c : Nat) (w : World), KIn B w ab lb nb gb n j A c ys a →
    Calls Tryd.prog 70 #[.int .u64 (from_ : Int), .int .u64 (size : Int), .bool edge, .pointer (some ⟨ab, 0, none⟩), .pointer (some ⟨nb, 0, none⟩), .pointer (some ⟨gb, 0, none⟩)] w (Led B w ab lb nb gb n ys a P Q ev j')

theorem klead_any (hn : n ≤ 1000000) (hy : ∀ x ∈ ys, x < 256) (hlen : ys.length = 32 * n) (hal : a.length = 32) (hab : ∀ x ∈ a, x < 256) (hk : Knows B) (hs : Starts B) (hm : Miss B E) :
    ∀ (size from_ j : Nat) (edge : Bool), 1 ≤ from_ → from_ ≤ size → size < 18446744073709551616 → j ≤ n →
      (j + ldep from_ size edge ≤ n → KCall B ab lb nb gb n ys a from_ size edge j (linkF (nth ys) a from_ size edge j).1 (linkF (nth ys) a from_ size edge j).2 .nilIface (j + ldep from_ size edge)) ∧
      (n < j + ldep from_ size edge → ∃ (P Q : List Nat) (j' : Nat), P.length = 32 ∧ Q.length = 32 ∧ KCall B ab lb nb gb n ys a from_ size edge j P Q (missV E) j') := by
  intro size
  induction size using Nat.strongRecOn with
  | ind size ih =>
    intro from_ j edge h1 hfs hz hj
    by_cases h2 : size < 2 ∨ from_ = size
    · obtain rfl : from_ = size := by omega
      rw [ldep_all h2, linkF_all _ _ h2]
      cases edge with
      | true =>
        refine ⟨fun _ A c w h => ?_, fun hh => ?_⟩
        · exact klead_edge h hal rfl
        · simp at hh; omega
      | false =>
        have hroot : KCall B ab lb nb gb n ys a from_ from_ false j (nxS ys n j) (nxS ys n j) (nxV E n j) (nxJ n j) := fun A c w h => klead_root h (nxS_length hlen j) rfl fun w' h' => knext_any h' hn hm
        refine ⟨fun hh => ?_, fun hh => ?_⟩
        · have hlt : j < n := by simp at hh; omega
          unfold nxS nxV nxJ at hroot
          rw [if_pos hlt, if_pos hlt, if_pos hlt] at hroot
          exact hroot
        · have hlt : ¬ j < n := by simp at hh; omega
          unfold nxV at hroot
          rw [if_neg hlt] at hroot
          exact ⟨_, _, _, nxS_length hlen j, nxS_length hlen j, hroot⟩
    · have hcl := cutN_lt (m := size) (by omega)
      have hcp := cutN_pos size
      by_cases ha : from_ ≤ cutN size
      · rw [ldep_low h2 ha, linkF_low _ _ h2 ha, ← Nat.add_assoc]
        have IH := ih (cutN size) hcl from_ j edge h1 ha (by omega) hj
        by_cases hd : j + ldep from_ (cutN size) edge ≤ n
        · have L := linkF_len (a := a) hlen hal hd
          have Lb := linkF_lt hy hab (cutN size) from_ j edge
          have hgo : KCall B ab lb nb gb n ys a from_ size edge j (linkF (nth ys) a from_ (cutN size) edge j).1 (nodeL (linkF (nth ys) a from_ (cutN size) edge j).2 (nxS ys n (j + ldep from_ (cutN size) edge))) (nxV E n (j + ldep from_ (cutN size) edge)) (nxJ n (j + ldep from_ (cutN size) edge)) :=
            fun A c w h => klead_low_go h L.1 L.2 (by omega) hz (by omega) ha (fun w' h' => IH.1 hd A c w' h') (fun w' A' c' h' => knext_any h' hn hm) (nxS_length hlen _) (nxS_lt hy n _) Lb.2 hk hs
          refine ⟨fun hh => ?_, fun hh => ?_⟩
          · have hlt : j + ldep from_ (cutN size) edge < n := by omega
            unfold nxS nxV nxJ at hgo
            rw [if_pos hlt, if_pos hlt, if_pos hlt] at hgo
            exact hgo
          · have hlt : ¬ j + ldep from_ (cutN size) edge < n := by omega
            unfold nxV at hgo
            rw [if_neg hlt] at hgo
            exact ⟨_, _, _, L.1, nodeL_length _ _, hgo⟩
        · obtain ⟨P, Q, j', hP, hQ, hc⟩ := IH.2 (by omega)
          refine ⟨fun hh => by omega, fun _ => ⟨P, Q, j', hP, hQ, fun A c w h => ?_⟩⟩
          exact klead_low_fall h hP hQ (by omega) hz (by omega) ha (fun w' h' => hc A c w' h')
      · rw [ldep_high h2 ha, linkF_high _ _ h2 ha, ← Nat.add_assoc]
        have IH := ih (size - cutN size) (by omega) (from_ - cutN size) j false (by omega) (by omega) (by omega) hj
        by_cases hd : j + ldep (from_ - cutN size) (size - cutN size) false ≤ n
        · have L := linkF_len (a := a) hlen hal hd
          have Lb := linkF_lt hy hab (size - cutN size) (from_ - cutN size) j false
          have hgo : KCall B ab lb nb gb n ys a from_ size edge j (nodeL (nxS ys n (j + ldep (from_ - cutN size) (size - cutN size) false)) (linkF (nth ys) a (from_ - cutN size) (size - cutN size) false j).1) (nodeL (nxS ys n (j + ldep (from_ - cutN size) (size - cutN size) false)) (linkF (nth ys) a (from_ - cutN size) (size - cutN size) false j).2) (nxV E n (j + ldep (from_ - cutN size) (size - cutN size) false)) (nxJ n (j + ldep (from_ - cutN size) (size - cutN size) false)) :=
            fun A c w h => klead_high_go h L.1 L.2 (by omega) hz (by omega) ha (fun w' h' => IH.1 hd A c w' h') (fun w' A' c' h' => knext_any h' hn hm) (nxS_length hlen _) (nxS_lt hy n _) Lb.1 Lb.2 hk hs
          refine ⟨fun hh => ?_, fun hh => ?_⟩
          · have hlt : j + ldep (from_ - cutN size) (size - cutN size) false < n := by omega
            unfold nxS nxV nxJ at hgo
            rw [if_pos hlt, if_pos hlt, if_pos hlt] at hgo
            exact hgo
          · have hlt : ¬ j + ldep (from_ - cutN size) (size - cutN size) false < n := by omega
            unfold nxV at hgo
            rw [if_neg hlt] at hgo
            exact ⟨_, _, _, nodeL_length _ _, nodeL_length _ _, hgo⟩
        · obtain ⟨P, Q, j', hP, hQ, hc⟩ := IH.2 (by omega)
          refine ⟨fun hh => by omega, fun _ => ⟨P, Q, j', hP, hQ, fun A c w h => ?_⟩⟩
          exact klead_high_fall h hP hQ (by omega) hz (by omega) ha (fun w' h' => hc A c w' h')
end

end Go.Proofs.YtnaebjdccngeoaaDoor

/-
  links.ends: what a link leads to, how many of its sums are not taken, and whether one is missing.
-/
namespace Go.Proofs.YtnaebjdccngeoaaDoor
open Go.RowKit

/-- Three results, of which the first lies in memory. -/
theorem results_cell_tmp2 {P : Program} {fn : Func} {p q r : Tmp} {ty : TypeId} (h : fn.results = #[.cell p ty, .tmp q, .tmp r]) (tmps : Array Value) (w : World) (ad : Addr) (v : Value)
    (hp : tmps.getD p undef = .pointer (some ad)) (hl : (loadVar ty ad).run P w = .ok v w) : (results fn tmps).run P w = .ok (.tuple #[v, tmps.getD q undef, tmps.getD r undef]) w := by
  have hp' : tmps[p]?.getD undef = .pointer (some ad) := by simpa using hp
  simp [results, h, hp', asAddr, hl]

/-- The world in which ends calls lead. -/
structure KEndsIn (w w1 : World) (a : List Nat) (A : Option Addr) (n c g : Nat) : Prop where
  sum : BArr w1 g 36 a
  link : VarAt w1 (g + 1) 24 (.slice A n c)
  res : BArr w1 (g + 2) 62 zero64
  nxt : VarAt w1 (g + 3) 90 (takesK (g + 1))
  led : VarAt w1 (g + 4) 91 (leadsK g (g + 3) (g + 4))
  below : Below w.heap.size w w1
  size : w1.heap.size = g + 5
theorem kendsIn_of (w : World) (a : List Nat) (A : Option Addr) (n c g : Nat) (hg : w.heap.size = g) :
    KEndsIn w (((((w.alloc (.cells (bvs a).toArray 36)).alloc (.cells #[.slice A n c] 24)).alloc (.cells (bvs zero64).toArray 62)).alloc (.cells #[takesK (g + 1)] 90)).alloc (.cells #[leadsK g (g + 3) (g + 4)] 91)) a A n c g := by
  have h0 := BArr.new w 36 a
  obtain ⟨w0, e0⟩ : ∃ w0, w0 = w.alloc (.cells (bvs a).toArray 36) := ⟨_, rfl⟩
  have b0 := below_alloc w (.cells (bvs a).toArray 36)
  have s0 : w0.heap.size = g + 1 := by rw [e0]; simp [hg]
  rw [← e0] at h0 b0 ⊢
  have h1 := VarAt.new w0 24 (.slice A n c)
  obtain ⟨w1, e1⟩ : ∃ w1, w1 = w0.alloc (.cells #[.slice A n c] 24) := ⟨_, rfl⟩
  have b1 := below_alloc w0 (.cells #[.slice A n c] 24)
  have s1 : w1.heap.size = g + 2 := by rw [e1]; simp [s0]
  rw [← e1] at h1 b1 ⊢
  have h2 := BArr.new w1 62 zero64
  obtain ⟨w2, e2⟩ : ∃ w2, w2 = w1.alloc (.cells (bvs zero64).toArray 62) := ⟨_, rfl⟩
  have b2 := below_alloc w1 (.cells (bvs zero64).toArray 62)
  have s2 : w2.heap.size = g + 3 := by rw [e2]; simp [s1]
  rw [← e2] at h2 b2 ⊢
  have h3 := VarAt.new w2 90 (takesK (g + 1))
  obtain ⟨w3, e3⟩ : ∃ w3, w3 = w2.alloc (.cells #[takesK (g + 1)] 90) := ⟨_, rfl⟩
  have b3 := below_alloc w2 (.cells #[takesK (g + 1)] 90)
  have s3 : w3.heap.size = g + 4 := by rw [e3]; simp [s2]
  rw [← e3] at h3 b3 ⊢
  have h4 := VarAt.new w3 91 (leadsK g (g + 3) (g + 4))
  have b4 := below_alloc w3 (.cells #[leadsK g (g + 3) (g + 4)] 91)
  rw [hg] at h0
  rw [s0] at h1
  rw [s1] at h2
  rw [s2] at h3
  rw [s3] at h4
  exact ⟨(((h0.below b1).below b2).below b3).below b4, ((h1.below b2).below b3).below b4, (h2.below b3).below b4, h3.below b4, h4,
    below_on (below_on (below_on (below_on b0 (Nat.le_refl _) b1) (Nat.le_refl _) b2) (Nat.le_refl _) b3) (Nat.le_refl _) b4, by simp [s3]⟩

section
variable {w : World} {n c : Nat} {A : Option Addr} {ys a : List Nat} {E : Addr} {from_ size : Nat}

set_option maxRecDepth 100000 in
set_option maxHeartbeats 4000000 in
theorem kends_at {P Q : List Nat} {ev : Value} {j' g m : Nat} (hm : n - j' = m) (hg : w.heap.size = g) (hin : InS w A n ys) (hc : n ≤ c) (hPl : P.length = 32) (hQl : Q.length = 32)
    (cl : KCall w g (g + 1) (g + 3) (g + 4) n ys a from_ size true 0 P Q ev j') :
    Calls Tryd.prog 40 #[.int .u64 (from_ : Int), .int .u64 (size : Int), sv a, .slice A n c] w fun e w' => e = .returned (.tuple #[sv (P ++ Q), .int .i64 (m : Int), ev]) ∧ Below w.heap.size w w' := by
  have HM := Lib.hid hm
  have e0 : (bvs zero64).toArray = #[.int .u8 0, .int .u8 0, .int .u8 0, .int .u8 0, .int .u8 0, .int .u8 0, .int .u8 0, .int .u8 0, .int .u8 0, .int .u8 0, .int .u8 0, .int .u8 0, .int .u8 0, .int .u8 0, .int .u8 0, .int .u8 0, .int .u8 0, .int .u8 0, .int .u8 0, .int .u8 0, .int .u8 0, .int .u8 0, .int .u8 0, .int .u8 0, .int .u8 0, .int .u8 0, .int .u8 0, .int .u8 0, .int .u8 0, .int .u8 0, .int .u8 0, .int .u8 0, .int .u8 0, .int .u8 0, .int .u8 0, .int .u8 0, .int .u8 0, .int .u8 0, .int .u8 0, .int .u8 0, .int .u8 0, .int .u8 0, .int .u8 0, .int .u8 0, .int .u8 0, .int .u8 0, .int .u8 0, .int .u8 0, .int .u8 0, .int .u8 0, .int .u8 0, .int .u8 0, .int .u8 0, .int .u8 0, .int .u8 0, .int .u8 0, .int .u8 0, .int .u8 0, .int .u8 0, .int .u8 0, .int .u8 0, .int .u8 0, .int .u8 0, .int .u8 0] := rfl
  have h1 := kendsIn_of w a A n c g hg
  rw [e0] at h1
  clear e0
  have hmf : ∀ (fn : Fn) (first cap : Array Value) (w : World), (Instr.makeFunc fn first cap).run Tryd.prog w = .ok (.func fn first cap) w := fun _ _ _ _ => rfl
  unfold takesK leadsK at h1
  obtain ⟨w1, hw1⟩ : ∃ w1, w1 = ((((w.alloc (.cells (bvs a).toArray 36)).alloc (.cells #[.slice A n c] 24)).alloc (.cells #[.int .u8 0, .int .u8 0, .int .u8 0, .int .u8 0, .int .u8 0, .int .u8 0, .int .u8 0, .int .u8 0, .int .u8 0, .int .u8 0, .int .u8 0, .int .u8 0, .int .u8 0, .int .u8 0, .int .u8 0, .int .u8 0, .int .u8 0, .int .u8 0, .int .u8 0, .int .u8 0, .int .u8 0, .int .u8 0, .int .u8 0, .int .u8 0, .int .u8 0, .int .u8 0, .int .u8 0, .int .u8 0, .int .u8 0, .int .u8 0, .int .u8 0, .int .u8 0, .int .u8 0, .int .u8 0, .int .u8 0, .int .u8 0, .int .u8 0, .int .u8 0, .int .u8 0, .int .u8 0, .int .u8 0, .int .u8 0, .int .u8 0, .int .u8 0, .int .u8 0, .int .u8 0, .int .u8 0, .int .u8 0, .int .u8 0, .int .u8 0, .int .u8 0, .int .u8 0, .int .u8 0, .int .u8 0, .int .u8 0, .int .u8 0, .int .u8 0, .int .u8 0, .int .u8 0, .int .u8 0, .int .u8 0, .int .u8 0, .int .u8 0, .int .u8 0] 62)).alloc (.cells #[.func (.func 69) #[] #[.pointer (some ⟨g + 1, 0, none⟩)]] 90)).alloc (.cells #[.func (.func 70) #[] #[.pointer (some ⟨g, 0, none⟩), .pointer (some ⟨g + 3, 0, none⟩), .pointer (some ⟨g + 4, 0, none⟩)]] 91) := ⟨_, rfl⟩
  rw [← hw1] at h1
  have k1 : KIn w w1 g (g + 1) (g + 3) (g + 4) n 0 A c ys a := ⟨h1.link, hin, hc, Nat.zero_le _, h1.sum, h1.nxt, h1.led, h1.below, by omega, ⟨by omega, by omega, by omega⟩⟩
  have CL := Lib.hid (cl A c w1 k1)
  have H1 := Lib.hid h1
  have HW := Lib.hid hw1
  have HG := Lib.hid hg
  have l1 := h1.led.cell
  have hPQ : (P ++ Q).length = 64 := by rw [List.length_append]; omega
  have HZ := Lib.hid (show zero64.length = 64 from rfl)
  clear h1 hw1 k1 cl hin hc hm
  unfold sv
  go_enter Tryd.func40, Tryd.ntmps40
  go_upto_region 4 with fail
  rw [show g + 1 + 1 = g + 2 from rfl, show g + 2 + 1 = g + 3 from rfl, show g + 3 + 1 = g + 4 from rfl]
  rw [← HW.out]
  clear hg
  unfold leadsK at l1
  go_wp2_with fail
  refine CL.out.mono ?_
  rintro e w2 ⟨rfl, ⟨A2, c2, hk2⟩, hb2⟩
  have v2 := hk2.var
  rw [HM.out] at v2
  have r2 : BArr w2 (g + 2) 62 zero64 := (hb2.block _ H1.out.res.lt (by omega)).trans H1.out.res
  have B2 := Lib.hid (H1.out.below.trans (hb2.below (by have := H1.out.size; have := HG.out; omega) (fun b e => by have := HG.out; omega)))
  have V2 := Lib.hid v2
  clear hk2 hb2 v2
  go_upto_region 5 with (with_reducible refine wpList_store_pair rfl (.tmp 8) (.tmp 20) rfl (g + 2) rfl zero64 (P ++ Q) HZ.out hPQ r2 rfl ?_)
  have r3 : BArr (w2.setRow (g + 2) (bvs (P ++ Q)).toArray) (g + 2) 62 (P ++ Q) := r2.setRow _
  have v3 := V2.out.setRow_other (g + 2) (by omega) (bvs (P ++ Q)).toArray
  have b3 : Below w.heap.size w (w2.setRow (g + 2) (bvs (P ++ Q)).toArray) := below_setRow B2.out (by have := HG.out; omega) _
  obtain ⟨w3, hw3⟩ : ∃ w3, w3 = w2.setRow (g + 2) (bvs (P ++ Q)).toArray := ⟨_, rfl⟩
  rw [← hw3] at r3 v3 b3 ⊢
  have B3 := Lib.hid b3
  clear hw3 r2 b3
  have hS : BArr w3.drew (g + 2) 62 (P ++ Q) ∧ VarAt w3.drew (g + 1) 24 (.slice A2 m c2) := ⟨r3, v3⟩
  refine wp_region_held (S := fun W => BArr W (g + 2) 62 (P ++ Q) ∧ VarAt W (g + 1) 24 (.slice A2 m c2)) (by kernel_rfl) ?_
  change wpAnyH _ _ _ _ _ _ _ _ w3.drew
  refine' wpAnyH_take (i := 0) (oi := _) (v := sv (P ++ Q)) ?hi0 (by kernel_rfl) ?hf0 ?hr0 ?hQ0 ?hy0 hS ?rest0
  case hi0 => (simp only [List.getElem?_toArray, List.getElem?_cons_zero]; rfl)
  case hf0 => kernel_rfl
  case hr0 => kernel_rfl
  case hQ0 => exact fun _ _ _ h => h
  case hy0 => exact yields_pair (by rfl) (.tmp 8) (by rfl) _ (by rfl) (P ++ Q) hPQ (fun W hSw => hSw.1.at_)
  try simp only [Act.put, List.setIfInBounds_toArray, List.set_cons_zero, List.set_cons_succ]
  refine' wpAnyH_take (i := 1) (oi := _) (v := _) ?hi1 (by kernel_rfl) ?hf1 ?hr1 ?hQ1 ?hy1 hS ?rest1
  case hi1 => (simp only [List.getElem?_toArray, List.getElem?_cons_zero, List.getElem?_cons_succ]; rfl)
  case hf1 => kernel_rfl
  case hr1 => kernel_rfl
  case hQ1 => exact fun _ _ _ h => h
  case hy1 => refine Or.inl ⟨by rfl, ?_⟩; intro W hSw; have s0 := hSw.2.cell; go_simp; try with_reducible rfl
  try simp only [Act.put, List.setIfInBounds_toArray, List.set_cons_zero, List.set_cons_succ]
  refine' wpAnyH_take (i := 2) (oi := _) (v := _) ?hi2 (by kernel_rfl) ?hf2 ?hr2 ?hQ2 ?hy2 hS ?rest2
  case hi2 => (simp only [List.getElem?_toArray, List.getElem?_cons_zero, List.getElem?_cons_succ]; rfl)
  case hf2 => kernel_rfl
  case hr2 => kernel_rfl
  case hQ2 => exact fun _ _ _ h => h
  case hy2 => refine Or.inl ⟨by rfl, ?_⟩; intro W hSw; have s0 := hSw.2.cell; go_simp; try with_reducible rfl
  try simp only [Act.put, List.setIfInBounds_toArray, List.set_cons_zero, List.set_cons_succ]
  refine' wpAnyH_take (i := 3) (oi := _) (v := _) ?hi3 (by kernel_rfl) ?hf3 ?hr3 ?hQ3 ?hy3 hS ?rest3
  case hi3 => (simp only [List.getElem?_toArray, List.getElem?_cons_zero, List.getElem?_cons_succ]; rfl)
  case hf3 => kernel_rfl
  case hr3 => kernel_rfl
  case hQ3 => exact fun _ _ _ h => h
  case hy3 => refine Or.inl ⟨by rfl, ?_⟩; intro W hSw; have s0 := hSw.2.cell; go_simp; try with_reducible rfl
  try simp only [Act.put, List.setIfInBounds_toArray, List.set_cons_zero, List.set_cons_succ]
  refine wpAnyH_ready (rs := [4]) (by kernel_rfl) (by simp) ?_
  refine' AllReadyH.cons (o := _) ?hin (fun K3 hK3 => ?_) AllReadyH.nil
  case hin => (simp only [List.getElem?_toArray, List.getElem?_cons_zero, List.getElem?_cons_succ]; rfl)
  rw [if_pos (by rfl)]
  refine step_store_pair (.tmp 8) (.tmp 22) rfl (g + 2) rfl (P ++ Q) (P ++ Q) hPQ hPQ hS.1 rfl ?_
  have r5 : BArr (w3.drew.setRow (g + 2) (bvs (P ++ Q)).toArray) (g + 2) 62 (P ++ Q) := hS.1.setRow _
  have b5 : Below w.heap.size w (w3.drew.setRow (g + 2) (bvs (P ++ Q)).toArray) := below_setRow B3.out.drew (by have := HG.out; omega) _
  have hS5 : BArr (w3.drew.setRow (g + 2) (bvs (P ++ Q)).toArray) (g + 2) 62 (P ++ Q) ∧ VarAt (w3.drew.setRow (g + 2) (bvs (P ++ Q)).toArray) (g + 1) 24 (.slice A2 m c2) := ⟨r5, hS.2.setRow_other _ (by omega) _⟩
  obtain ⟨w5, hw5⟩ : ∃ w5, w5 = w3.drew.setRow (g + 2) (bvs (P ++ Q)).toArray := ⟨_, rfl⟩
  rw [← hw5] at r5 b5 hS5 ⊢
  refine hK3.out _ _ hS5 (fun _ => ?_)
  clear hK3 K3 hw5
  refine' wpAnyH_take (i := 5) (oi := _) (v := _) ?hi5 (by kernel_rfl) ?hf5 ?hr5 ?hQ5 ?hy5 hS5 ?rest5
  case hi5 => (simp only [List.getElem?_toArray, List.getElem?_cons_zero, List.getElem?_cons_succ]; rfl)
  case hf5 => kernel_rfl
  case hr5 => kernel_rfl
  case hQ5 => exact fun _ _ _ h => h
  case hy5 => refine Or.inl ⟨by rfl, ?_⟩; intro W hSw; have s0 := hSw.2.cell; go_simp; try with_reducible rfl
  try simp only [Act.put, List.setIfInBounds_toArray, List.set_cons_zero, List.set_cons_succ]
  refine' wpAnyH_take (i := 6) (oi := _) (v := _) ?hi6 (by kernel_rfl) ?hf6 ?hr6 ?hQ6 ?hy6 hS5 ?rest6
  case hi6 => (simp only [List.getElem?_toArray, List.getElem?_cons_zero, List.getElem?_cons_succ]; rfl)
  case hf6 => kernel_rfl
  case hr6 => kernel_rfl
  case hQ6 => exact fun _ _ _ h => h
  case hy6 => refine Or.inl ⟨by rfl, ?_⟩; intro W hSw; have s0 := hSw.2.cell; go_simp; try with_reducible rfl
  try simp only [Act.put, List.setIfInBounds_toArray, List.set_cons_zero, List.set_cons_succ]
  refine wpAnyH_done (by kernel_rfl) ?_ _
  go_wp2
  refine bodyPost_ret_by (results_cell_tmp2 (p := 8) (q := 9) (r := 10) (ty := 62) (by kernel_rfl) _ _ ⟨g + 2, 0, none⟩ (sv (P ++ Q)) rfl (run_load_pair _ _ _ hPQ r5.at_)) rfl ?_
  exact ⟨rfl, b5⟩

/-- Both sums and how many are left; or one is missing. -/
theorem kends_yes (hn : n ≤ 1000000) (hin : InS w A n ys) (hy : ∀ x ∈ ys, x < 256) (hc : n ≤ c) (hal : a.length = 32) (hab : ∀ x ∈ a, x < 256) (hk : Knows w) (hs : Starts w) (hm : Miss w E) (h1 : 1 ≤ from_) (hfs : from_ ≤ size) (hz : size < 18446744073709551616) (hd : ldep from_ size true ≤ n) :
    Calls Tryd.prog 40 #[.int .u64 (from_ : Int), .int .u64 (size : Int), sv a, .slice A n c] w fun e w' => e = .returned (.tuple #[sv ((linkF (nth ys) a from_ size true 0).1 ++ (linkF (nth ys) a from_ size true 0).2), .int .i64 ((n - ldep from_ size true : Nat) : Int), .nilIface]) ∧ Below w.heap.size w w' := by
  have L := linkF_len (a := a) (j := 0) (edge := true) hin.len hal (size := size) (from_ := from_) (by omega)
  have C := (klead_any (ab := w.heap.size) (lb := w.heap.size + 1) (nb := w.heap.size + 3) (gb := w.heap.size + 4) hn hy hin.len hal hab hk hs hm size from_ 0 true h1 hfs hz (Nat.zero_le _)).1 (by omega)
  rw [Nat.zero_add] at C
  exact kends_at rfl rfl hin hc L.1 L.2 C
theorem kends_no (hn : n ≤ 1000000) (hin : InS w A n ys) (hy : ∀ x ∈ ys, x < 256) (hc : n ≤ c) (hal : a.length = 32) (hab : ∀ x ∈ a, x < 256) (hk : Knows w) (hs : Starts w) (hm : Miss w E) (h1 : 1 ≤ from_) (hfs : from_ ≤ size) (hz : size < 18446744073709551616) (hd : n < ldep from_ size true) :
    ∃ P Q : List Nat, ∃ m : Nat, P.length = 32 ∧ Q.length = 32 ∧ Calls Tryd.prog 40 #[.int .u64 (from_ : Int), .int .u64 (size : Int), sv a, .slice A n c] w fun e w' => e = .returned (.tuple #[sv (P ++ Q), .int .i64 (m : Int), missV E]) ∧ Below w.heap.size w w' := by
  obtain ⟨P, Q, j', hP, hQ, C⟩ := (klead_any (ab := w.heap.size) (lb := w.heap.size + 1) (nb := w.heap.size + 3) (gb := w.heap.size + 4) hn hy hin.len hal hab hk hs hm size from_ 0 true h1 hfs hz (Nat.zero_le _)).2 (by omega)
  exact ⟨P, Q, n - j', hP, hQ, kends_at rfl rfl hin hc hP hQ C⟩

end

end Go.Proofs.YtnaebjdccngeoaaDoor

/-
  links.Check.
-/
namespace Go.Proofs.YtnaebjdccngeoaaDoor
open Go.RowKit

theorem wpList_load_pair_g {ops : Array Oper} {rest : List Oper} {o : Oper} {a : Act} {w : World} {Q : Exit → Act → World → Prop} (hw : Region.wanted o (yielded ops a.tmps) = true) (x : Operand) (ho : o.op = .load 62 x)
    (ad : Addr) (hx : a.eval x = .pointer (some ad)) (s : List Nat) (hl : s.length = 64) (hc : At w ad s)
    (h : wpList Tryd.prog ops Q rest (a.put o.dst (sv s)) w) : wpList Tryd.prog ops Q (o :: rest) a w := by
  refine wpList_step fun K hK => ?_
  rw [if_pos hw]
  unfold Oper.wp execOp
  simp only [ho, hx, Instr.loadAt, Instr.sureAddr, Sem.run_bind, Sem.run_pure, Result.andThen_ok, run_load_pair w ad s hl hc]
  exact hK _ _ h
theorem wpList_build_pair_g {ops : Array Oper} {rest : List Oper} {o : Oper} {a : Act} {w : World} {Q : Exit → Act → World → Prop} (hw : Region.wanted o (yielded ops a.tmps) = true) (u v : Operand) (ho : o.op = .build 62 #[(0, u), (1, v)])
    (x y : List Nat) (hu : a.eval u = sv x) (hv : a.eval v = sv y) (hx : x.length = 32) (hy : y.length = 32)
    (h : wpList Tryd.prog ops Q rest (a.put o.dst (sv (x ++ y))) w) : wpList Tryd.prog ops Q (o :: rest) a w := by
  refine wpList_step fun K hK => ?_
  rw [if_pos hw]
  unfold Oper.wp
  rw [run_build_op u v ho x y hu hv hx hy]
  exact hK _ _ h

/-- The world in which Check begins. -/
structure KCheckIn (w w1 : World) (a b : List Nat) : Prop where
  old : BArr w1 w.heap.size 36 a
  new : BArr w1 (w.heap.size + 1) 36 b
  below : Below w.heap.size w w1
  size : w1.heap.size = w.heap.size + 2
theorem kcheckIn_of (w : World) (a b : List Nat) : KCheckIn w ((w.alloc (.cells (bvs a).toArray 36)).alloc (.cells (bvs b).toArray 36)) a b := by
  have f0 := (BArr.new w 36 a).alloc (.cells (bvs b).toArray 36)
  have f1 := BArr.new (w.alloc (.cells (bvs a).toArray 36)) 36 b
  rw [World.size_alloc] at f1
  exact ⟨f0, f1, (below_alloc w _).alloc (by simp) _, by simp⟩

section
variable {w : World} {n c : Nat} {A : Option Addr} {ys a b : List Nat} {E : Addr} {from_ size : Nat}

set_option maxRecDepth 100000 in
set_option maxHeartbeats 2000000 in
theorem kcheck_far (hge : ¬ (1 ≤ from_ ∧ from_ ≤ size)) :
    Calls Tryd.prog 11 #[.int .u64 (from_ : Int), .int .u64 (size : Int), sv a, sv b, .slice A n c] w fun e w' => e = .returned (.bool false) ∧ Below w.heap.size w w' := by
  have H1 := Lib.hid (kcheckIn_of w a b)
  unfold sv
  by_cases h1 : from_ < 1
  · have hi : (from_ : Int) < 1 := by omega
    go_enter Tryd.func11, Tryd.ntmps11
    go_wp2_with fail
    go_ret
    exact ⟨rfl, H1.out.below⟩
  · have hi : ¬ (from_ : Int) < 1 := by omega
    have hd : decide ((from_ : Int) < 1) = false := by simp; omega
    have hj : (size : Int) < (from_ : Int) := by omega
    go_enter Tryd.func11, Tryd.ntmps11
    go_wp2_with fail
    go_ret
    exact ⟨rfl, H1.out.below⟩

set_option maxRecDepth 100000 in
set_option maxHeartbeats 2000000 in
theorem kcheck_no (hl : a.length = 32) (h1 : 1 ≤ from_) (hlt : from_ ≤ size) (hm : Miss w E)
    (ce : ∀ w' : World, Below w.heap.size w w' → ∃ P Q : List Nat, ∃ m : Nat, P.length = 32 ∧ Q.length = 32 ∧ Calls Tryd.prog 40 #[.int .u64 (from_ : Int), .int .u64 (size : Int), sv a, .slice A n c] w' fun e w'' => e = .returned (.tuple #[sv (P ++ Q), .int .i64 (m : Int), missV E]) ∧ Below w'.heap.size w' w'') :
    Calls Tryd.prog 11 #[.int .u64 (from_ : Int), .int .u64 (size : Int), sv a, sv b, .slice A n c] w fun e w' => e = .returned (.bool false) ∧ Below w.heap.size w w' := by
  obtain ⟨w1, hw1⟩ : ∃ w1, w1 = (w.alloc (.cells (bvs a).toArray 36)).alloc (.cells (bvs b).toArray 36) := ⟨_, rfl⟩
  have k1 := kcheckIn_of w a b
  rw [← hw1] at k1
  have H1 := Lib.hid k1
  have HW := Lib.hid hw1
  obtain ⟨P, Q, m, hPl, hQl, ce1⟩ := ce w1 k1.below
  have CE := Lib.hid ce1
  have hi : ¬ (from_ : Int) < 1 := by omega
  have hd : decide ((from_ : Int) < 1) = false := by simp; omega
  have hj : ¬ (size : Int) < (from_ : Int) := by omega
  have hA := Lib.hid k1.old.at_
  have hPQ : (P ++ Q).length = 64 := by rw [List.length_append]; omega
  have HM := Lib.hid hm
  have mv : missV E = .iface 148 (.pointer (some E)) := rfl
  clear k1 hw1 ce ce1 hlt hm h1
  unfold sv
  go_enter Tryd.func11, Tryd.ntmps11
  go_upto_region 1 with fail
  rw [← HW.out]
  go_wp2_with (with_reducible refine wpList_load_sum rfl (.tmp 7) rfl ⟨w.heap.size, 0, none⟩ rfl a hl hA.out ?_)
  refine CE.out.mono ?_
  rintro e w2 ⟨rfl, hb2⟩
  rw [mv]
  have m2 := (HM.out.below H1.out.below).below hb2
  unfold Miss at m2
  rw [mv] at m2
  have B2 := Lib.hid (below_on H1.out.below (Nat.le_refl _) hb2)
  have b3 := below_alloc w2 (.cells (bvs (P ++ Q)).toArray 62)
  have m3 := (b3.cell (World.block_lt_of_cell? w2 _ m2)).trans m2
  have HB3 := Lib.hid b3
  clear m2 hb2 b3 mv
  go_upto_region 4 with (with_reducible refine wpList_store_newP w2 _ rfl rfl (.tmp 11) (.tmp 27) rfl rfl (P ++ Q) hPQ rfl ?_)
  obtain ⟨w3, hw3⟩ : ∃ w3, w3 = w2.alloc (.cells (bvs (P ++ Q)).toArray 62) := ⟨_, rfl⟩
  rw [← hw3] at m3 HB3 ⊢
  clear hw3
  go_wp2_with fail
  refine (is_same E w3).mono ?_
  rintro e w4 ⟨rfl, rfl⟩
  go_wp2_with fail
  go_ret
  exact ⟨rfl, below_on B2.out (Nat.le_refl _) HB3.out⟩

set_option maxRecDepth 100000 in
set_option maxHeartbeats 4000000 in
theorem kcheck_at {P Q : List Nat} {m : Nat} (z : Bool) (hmz : ((m : Int) == 0) = z) (hPl : P.length = 32) (hQl : Q.length = 32) (hl : a.length = 32) (hbl : b.length = 32) (h1 : 1 ≤ from_) (hlt : from_ ≤ size) (hm : Miss w E)
    (ce : ∀ w' : World, Below w.heap.size w w' → Calls Tryd.prog 40 #[.int .u64 (from_ : Int), .int .u64 (size : Int), sv a, .slice A n c] w' fun e w'' => e = .returned (.tuple #[sv (P ++ Q), .int .i64 (m : Int), .nilIface]) ∧ Below w'.heap.size w' w'') :
    Calls Tryd.prog 11 #[.int .u64 (from_ : Int), .int .u64 (size : Int), sv a, sv b, .slice A n c] w fun e w' => e = .returned (.bool (z && (decide (P = a) && decide (Q = b)))) ∧ Below w.heap.size w w' := by
  obtain ⟨w1, hw1⟩ : ∃ w1, w1 = (w.alloc (.cells (bvs a).toArray 36)).alloc (.cells (bvs b).toArray 36) := ⟨_, rfl⟩
  have k1 := kcheckIn_of w a b
  rw [← hw1] at k1
  have H1 := Lib.hid k1
  have HW := Lib.hid hw1
  have CE := Lib.hid (ce w1 k1.below)
  have hi : ¬ (from_ : Int) < 1 := by omega
  have hd : decide ((from_ : Int) < 1) = false := by simp; omega
  have hj : ¬ (size : Int) < (from_ : Int) := by omega
  have hA := Lib.hid k1.old.at_
  have hPQ : (P ++ Q).length = 64 := by rw [List.length_append]; omega
  have HM := Lib.hid hm
  have HZ := Lib.hid hmz
  have mv : missV E = .iface 148 (.pointer (some E)) := rfl
  have q1 := run_eql_pair P Q a b hPl hQl hl hbl
  have q2 := fun x y => run_guard_pair x y (P ++ Q) (a ++ b)
  clear k1 hw1 ce hlt hm h1 hmz
  unfold sv
  go_enter Tryd.func11, Tryd.ntmps11
  go_upto_region 1 with fail
  rw [← HW.out]
  go_wp2_with (with_reducible refine wpList_load_sum rfl (.tmp 7) rfl ⟨w.heap.size, 0, none⟩ rfl a hl hA.out ?_)
  refine CE.out.mono ?_
  rintro e w2 ⟨rfl, hb2⟩
  have m2 := (HM.out.below H1.out.below).below hb2
  unfold Miss at m2
  rw [mv] at m2
  have B2 := Lib.hid (below_on H1.out.below (Nat.le_refl _) hb2)
  have b3 := below_alloc w2 (.cells (bvs (P ++ Q)).toArray 62)
  have g3 := BArr.new w2 62 (P ++ Q)
  have m3 := (b3.cell (World.block_lt_of_cell? w2 _ m2)).trans m2
  have O3 := Lib.hid ((H1.out.old.below hb2).below b3).at_
  have N3 := Lib.hid ((H1.out.new.below hb2).below b3).at_
  have HB3 := Lib.hid b3
  have HG3 := Lib.hid g3.at_
  clear m2 hb2 b3 mv g3
  go_upto_region 4 with (with_reducible refine wpList_store_newP w2 _ rfl rfl (.tmp 11) (.tmp 27) rfl rfl (P ++ Q) hPQ rfl ?_)
  obtain ⟨w3, hw3⟩ : ∃ w3, w3 = w2.alloc (.cells (bvs (P ++ Q)).toArray 62) := ⟨_, rfl⟩
  rw [← hw3] at m3 HB3 O3 N3 HG3 ⊢
  clear hw3
  go_wp2_with fail
  refine (is_nil E w3).mono ?_
  rintro e w4 ⟨rfl, rfl⟩
  have hmz := HZ.out
  cases z
  · go_wp2_with fail
    go_ret
    exact ⟨rfl, below_on B2.out (Nat.le_refl _) HB3.out⟩
  · go_upto_region 6 with fail
    refine wp_region_lit ?_
    refine wpList_plain rfl fun K hK => ?_
    go_simp
    refine hK _ _ ?_
    clear hK K
    refine wpList_plain rfl fun K hK => ?_
    go_simp
    refine hK _ _ ?_
    clear hK K
    refine wpList_plain rfl fun K hK => ?_
    go_simp
    refine hK _ _ ?_
    clear hK K
    refine wpList_load_pair_g rfl (.tmp 11) rfl ⟨w2.heap.size, 0, none⟩ rfl (P ++ Q) hPQ HG3.out ?_
    refine wpList_load_sum_g rfl (.tmp 7) rfl ⟨w.heap.size, 0, none⟩ rfl a hl O3.out ?_
    refine wpList_load_sum_g rfl (.tmp 8) rfl ⟨w.heap.size + 1, 0, none⟩ rfl b hbl N3.out ?_
    refine wpList_build_pair_g rfl (.tmp 37) (.tmp 38) rfl a b rfl rfl hl hbl ?_
    simp only [Act.put, List.setIfInBounds_toArray, List.set_cons_zero, List.set_cons_succ]
    go_wp2_with fail
    go_ret
    exact ⟨rfl, below_on B2.out (Nat.le_refl _) HB3.out⟩

/-- Whether a tree of so many leaves begins another one, by that link. -/
def begins (ys a b : List Nat) (n from_ size : Nat) : Bool := decide (1 ≤ from_ ∧ from_ ≤ size) && (decide (ldep from_ size true = n) && (decide ((linkF (nth ys) a from_ size true 0).1 = a) && decide ((linkF (nth ys) a from_ size true 0).2 = b)))

theorem kcheck_any (hin : InS w A n ys) (hy : ∀ x ∈ ys, x < 256) (hc : n ≤ c) (hn : n ≤ 1000000) (hal : a.length = 32) (hab : ∀ x ∈ a, x < 256) (hbl : b.length = 32) (hz : size < 18446744073709551616) (hk : Knows w) (hs : Starts w) (hm : Miss w E) :
    Calls Tryd.prog 11 #[.int .u64 (from_ : Int), .int .u64 (size : Int), sv a, sv b, .slice A n c] w fun e w' => e = .returned (.bool (begins ys a b n from_ size)) ∧ Below w.heap.size w w' := by
  unfold begins
  by_cases hat : 1 ≤ from_ ∧ from_ ≤ size
  · rw [decide_eq_true hat, Bool.true_and]
    by_cases hd : ldep from_ size true ≤ n
    · have L := linkF_len (a := a) (j := 0) (edge := true) hin.len hal (size := size) (from_ := from_) (by omega)
      exact kcheck_at _ (by
          by_cases he : ldep from_ size true = n
          · simp [he]
          · have : ¬ n - ldep from_ size true = 0 := by omega
            simp [he]; omega) L.1 L.2 hal hbl hat.1 hat.2 hm fun w' hb' => kends_yes hn (hin.below hb') hy hc hal hab (hk.below hb') (hs.below hb') (hm.below hb') hat.1 hat.2 hz hd
    · rw [decide_eq_false (p := ldep from_ size true = n) (by omega), Bool.false_and]
      exact kcheck_no hal hat.1 hat.2 hm fun w' hb' => kends_no hn (hin.below hb') hy hc hal hab (hk.below hb') (hs.below hb') (hm.below hb') hat.1 hat.2 hz (by omega)
  · rw [decide_eq_false hat, Bool.false_and]
    exact kcheck_far hat
end

end Go.Proofs.YtnaebjdccngeoaaDoor
