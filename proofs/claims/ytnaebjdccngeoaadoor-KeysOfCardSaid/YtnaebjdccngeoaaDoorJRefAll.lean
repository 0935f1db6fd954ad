/-
  almonerref14.All, Empty.
-/
import Derived.Test.YtnaebjdccngeoaaDoorJRefSide
import Derived.Test.YtnaebjdccngeoaaDoorLSums
import Derived.Test.YtnaebjdccngeoaaDoorLStoreSum
import Derived.Laws.CopyRow
namespace Go.Proofs.YtnaebjdccngeoaaDoor
open Go.RowKit

theorem made_zero (n : Nat) : madeCells (Array.replicate 32 (.int .u8 0)) n = (bvs (List.replicate n 0)).toArray := by
  apply Array.ext
  · simp [madeCells, bvs]
  · intro i h1 h2
    have h3 : i % 32 < 32 := Nat.mod_lt _ (by omega)
    simp [madeCells, bvs, h3]
    rfl
theorem nth_splice {ys s : List Nat} {k : Nat} (hs : s.length = 32) (hk : k * 32 + 32 ≤ ys.length) (j : Nat) : nth (splice ys (k * 32) s) j = if j = k then s else nth ys j := by
  unfold nth splice
  have h1 : (ys.take (k * 32)).length = k * 32 := by rw [List.length_take]; omega
  by_cases h : j = k
  · subst h
    rw [if_pos rfl, List.drop_append, h1, show 32 * j - j * 32 = 0 by omega, List.drop_of_length_le (by rw [h1]; omega), List.nil_append, List.drop_zero, List.take_append, hs, Nat.sub_self, List.take_zero, List.append_nil, List.take_of_length_le (by omega)]
  · rw [if_neg h]
    by_cases hlt : j < k
    · rw [List.drop_append, List.take_append, h1, List.length_drop, h1, show 32 - (k * 32 - 32 * j) = 0 by omega, List.take_zero, List.append_nil, List.drop_take, List.take_take, show min 32 (k * 32 - 32 * j) = 32 by omega]
    · rw [List.drop_append, h1, List.drop_of_length_le (by rw [h1]; omega), List.nil_append, List.drop_append, hs, List.drop_of_length_le (by rw [hs]; omega), List.nil_append, List.drop_drop, show k * 32 + 32 + (32 * j - k * 32 - 32) = 32 * j by omega]
theorem splice_bvs {ys s : List Nat} (k : Nat) : splice (bvs ys) k (bvs s) = bvs (splice ys k s) := by
  unfold splice bvs
  rw [List.map_append, List.map_append, List.map_take, List.map_drop, List.length_map]
theorem splice_len {ys s : List Nat} {k : Nat} (h : k + s.length ≤ ys.length) : (splice ys k s).length = ys.length := length_splice _ _ _ h
theorem at_nth {w : World} {g k : Nat} {T : TypeId} {ys : List Nat} (h : BArr w g T ys) (hk : k * 32 + 32 ≤ ys.length) : At w ⟨g, k * 32, none⟩ (nth ys k) := fun j x hx => by
  have hj := (List.getElem?_eq_some_iff.1 hx).1
  have hl : (nth ys k).length = 32 := by unfold nth; rw [List.length_take, List.length_drop]; omega
  rw [show (⟨g, k * 32, none⟩ : Addr).add j = ⟨g, k * 32 + j, none⟩ from by unfold Addr.add; split <;> simp_all]
  rw [cell_of_row _ g _ _ T (0, 0) h, List.getElem?_toArray, bvs_get]
  unfold nth at hx
  rw [List.getElem?_take, if_pos (by omega), List.getElem?_drop, show 32 * k + j = k * 32 + j by omega] at hx
  rw [hx]; rfl
/-- A sum stored into a row of sums. -/
theorem run_put_sum {w : World} {g k : Nat} {ys s : List Nat} (h : BArr w g 36 ys) (hs : s.length = 32) (hk : k * 32 + 32 ≤ ys.length) :
    (storeVar 36 ⟨g, k * 32, none⟩ (sv s)).run Tryd.prog w = .ok () (w.setRow g (bvs (splice ys (k * 32) s)).toArray) := by
  have hbl : (bvs s).length = 32 := by rw [bvs_length, hs]
  have hst := run_storeCells_at Tryd.prog g (k * 32) 36 (bvs s) 0 (bvs ys).toArray w h (by rw [hbl]; simpa [bvs_length] using hk) (bvs_oneCell s)
  simp only [Nat.add_zero] at hst
  rw [← splice_bvs]
  cases hq : Tryd.prog.info? 36 with
  | none => have := sizeSum; simp [hq] at this
  | some i =>
    have hi : i.size = 32 := by have := sizeSum; simpa [hq] using this
    simp [storeVar, sv, sizeOf, typeInfo, hq, Value.cells, hi, hbl, hst, splice]
theorem step_put_sum {o : Oper} {a : Act} {w : World} {K : Act → World → Prop} {Q : Exit → Act → World → Prop} (x y : Operand) (ho : o.op = .store 36 x y) {g k : Nat} {ys s : List Nat} (hx : a.eval x = .pointer (some ⟨g, k * 32, none⟩)) (hy : a.eval y = sv s)
    (h : BArr w g 36 ys) (hs : s.length = 32) (hk : k * 32 + 32 ≤ ys.length) (hK : K (a.put o.dst undef) (w.setRow g (bvs (splice ys (k * 32) s)).toArray)) : Oper.wp Tryd.prog o a w K Q := by
  unfold Oper.wp execOp
  simp only [ho, hx, hy, Instr.storeAt, Instr.sureAddr, Sem.run_bind, Sem.run_pure, Result.andThen_ok, run_put_sum h hs hk]
  exact hK
theorem wpList_put_sum {ops : Array Oper} {rest : List Oper} {o : Oper} {a : Act} {w : World} {Q : Exit → Act → World → Prop} (hgd : o.guard = none) (x y : Operand) (ho : o.op = .store 36 x y) {g k : Nat} (ys s : List Nat) (hx : a.eval x = .pointer (some ⟨g, k * 32, none⟩)) (hy : a.eval y = sv s)
    (h : BArr w g 36 ys) (hs : s.length = 32) (hk : k * 32 + 32 ≤ ys.length) (hn : wpList Tryd.prog ops Q rest (a.put o.dst undef) (w.setRow g (bvs (splice ys (k * 32) s)).toArray)) : wpList Tryd.prog ops Q (o :: rest) a w := by
  refine wpList_plain hgd fun K hK => ?_
  exact step_put_sum x y ho hx hy h hs hk (hK _ _ hn)

/-- All sums of what is empty. -/
def Empties (w : World) (g : Nat) (ys : List Nat) : Prop := BArr w g 36 ys ∧ ys.length = 8224 ∧ ∀ j, j ≤ 256 → nth ys j = emptyU (256 - j)

set_option maxRecDepth 100000 in
set_option maxHeartbeats 4000000 in
theorem jrefAll_any (w : World) : Calls Tryd.prog 51 #[] w fun e w' => ∃ g ys, e = .returned (.slice (some ⟨g, 0, none⟩) 257 257) ∧ Empties w' g ys ∧ Below w.heap.size w w' ∧ w.heap.size ≤ g := by
  obtain ⟨g, hg⟩ : ∃ g, w.heap.size = g := ⟨_, rfl⟩
  have hms : (Instr.makeSlice 24 (.int .i64 257) (.int .i64 257)).run Tryd.prog w = .ok (.slice (some ⟨w.heap.size, 0, none⟩) 257 257) (w.alloc (.cells (madeCells (Array.replicate 32 (.int .u8 0)) (257 * 32)) 36)) := make_sums 257 (by omega) w
  obtain ⟨w1, hw1⟩ : ∃ x, x = w.alloc (.cells (madeCells (Array.replicate 32 (.int .u8 0)) (257 * 32)) 36) := ⟨_, rfl⟩
  obtain ⟨zs, hzs⟩ : ∃ zs : List Nat, List.replicate (257 * 32) 0 = zs := ⟨_, rfl⟩
  have lz : zs.length = 8224 := by rw [← hzs, List.length_replicate]
  have f1 : BArr w1 g 36 zs := by rw [hw1, made_zero, hzs, ← hg]; exact BArr.new _ _ _
  have b1 : Below g w w1 := by rw [hw1, ← hg]; exact below_alloc _ _
  rw [← hw1, hg] at hms
  have HZ := Lib.hid (And.intro f1 (And.intro b1 lz))
  have HG := Lib.hid hg
  obtain ⟨w2, hw2⟩ : ∃ x, x = w1.alloc (.cells #[.int .u8 2] 5) := ⟨_, rfl⟩
  have b2 : Below w1.heap.size w1 w2 := by rw [hw2]; exact below_alloc _ _
  have i2 : In w2 (some ⟨w1.heap.size, 0, none⟩) 1 [2] := by rw [hw2]; exact In.new' w1 [2] _
  have CO := Lib.hid (refOf_any (some ⟨w1.heap.size, 0, none⟩) 1 1 [2] w2 i2 (by intro x hx; simp at hx; omega) (fun e => by cases e) (by omega))
  have HW2 := Lib.hid (And.intro hw2 b2)
  have l0 := emptyU_length 0
  have HE0 := Lib.hid (show sha [2] = emptyU 0 from rfl)
  obtain ⟨E, hE⟩ : ∃ E, emptyU 0 = E := ⟨_, rfl⟩
  rw [HE0.out, hE] at CO
  rw [hE] at l0
  have HE := Lib.hid hE
  clear f1 b1 lz hw1 hzs hg hw2 b2 i2 HE0 hE
  go_enter Tryd.func51, Tryd.ntmps51
  go_upto_region 2 with fail
  go_wp2_with fail
  rw [← HW2.out.1]
  refine CO.out.mono ?_
  rintro e w3 ⟨rfl, hb3⟩
  have b13 := below_on HW2.out.2 (Nat.le_refl _) hb3
  have f3 := HZ.out.1.below b13
  have HB3 := Lib.hid (below_on HZ.out.2.1 (Nat.le_of_eq HG.out.symm) b13)
  clear b13 hb3
  go_wp2_with (with_reducible refine wpList_put_sum rfl (.tmp 7) (.tmp 6) rfl (k := 256) zs E rfl rfl f3 l0 (by rw [HZ.out.2.2]; omega) ?_)
  have hEA : ∀ j, 256 ≤ j → j ≤ 256 → nth (splice zs (256 * 32) E) j = emptyU (256 - j) := fun j h1 h2 => by
    rw [nth_splice l0 (by rw [HZ.out.2.2]; omega), if_pos (by omega), ← HE.out, show 256 - j = 0 by omega]
  have hsl : (splice zs (256 * 32) E).length = 8224 := by rw [splice_len (by rw [HZ.out.2.2, l0]; omega), HZ.out.2.2]
  have H0 := Lib.hid (And.intro (f3.setRow (splice zs (256 * 32) E)) (And.intro hsl (And.intro hEA (below_setRow HB3.out (Nat.le_refl _) (bvs (splice zs (256 * 32) E)).toArray))))
  generalize w3.setRow g (bvs (splice zs (256 * 32) E)).toArray = w4 at H0 ⊢
  generalize splice zs (256 * 32) E = ys0 at H0
  clear hEA hsl f3 l0
  go_loopw [2] (fun i wr => ∃ (z : Int) (m : Nat) (ys : List Nat), i = .int .i64 z ∧ z = (m : Int) - 1 ∧ m ≤ 256 ∧ BArr wr g 36 ys ∧ ys.length = 8224 ∧ (∀ j, m ≤ j → j ≤ 256 → nth ys j = emptyU (256 - j)) ∧ Below g w wr) (fun i _ => (intOf i + 1).toNat)
  case atStart => exact ⟨255, 256, ys0, rfl, by omega, by omega, H0.out.1, H0.out.2.1, H0.out.2.2.1, H0.out.2.2.2⟩
  case round =>
    clear H0
    obtain ⟨z, m, ys, rfl, hzm, hm, hf, hl, hall, hb⟩ := hrel
    by_cases h0 : m = 0
    · subst h0
      have hz0 : z = -1 := by omega
      subst hz0
      have HR := Lib.hid (And.intro hf (And.intro hl (And.intro hall hb)))
      clear hf hl hall hb hzm hm
      go_wp2
      go_ret
      exact ⟨g, ys, rfl, ⟨HR.out.1, HR.out.2.1, fun j hj => HR.out.2.2.1 j (by omega) hj⟩, by rw [HG.out]; exact HR.out.2.2.2, Nat.le_of_eq HG.out⟩
    · obtain ⟨k, hk⟩ : ∃ k : Nat, m = k + 1 := ⟨m - 1, by omega⟩
      subst hk
      obtain rfl : z = (k : Int) := by omega
      obtain ⟨s, hs⟩ : ∃ s, emptyU (256 - (k + 1)) = s := ⟨_, rfl⟩
      have ls : s.length = 32 := by rw [← hs]; exact emptyU_length _
      have bs : ∀ x ∈ s, x < 256 := by rw [← hs]; exact emptyU_lt _
      have hn1 : nth ys (k + 1) = s := by rw [hall (k + 1) (by omega) (by omega), hs]
      obtain ⟨s2, hs2⟩ : ∃ x, sideL s s = x := ⟨_, rfl⟩
      have ls2 : s2.length = 32 := by rw [← hs2]; exact sideL_length _ _
      have hE2 : emptyU (256 - k) = s2 := by rw [show 256 - k = (256 - (k + 1)) + 1 by omega, emptyU, hs, hs2]
      have CS := Lib.hid (fun (W : World) => show Calls Tryd.prog 26 #[sv s, sv s] W fun e w' => e = .returned (sv s2) ∧ Below W.heap.size W w' from by rw [← hs2]; exact jrefSide_any s s W ls ls bs bs)
      obtain ⟨k1, hk1⟩ : ∃ k1, k + 1 = k1 := ⟨_, rfl⟩
      have hw1 : (k : Int) + 1 = (k1 : Int) := by omega
      have hwk : IntKind.i64.wrap (k1 : Int) = (k1 : Int) := by rw [IntKind.wrap_i64]; omega
      have hk257 : (k1 : Int) < 257 := by omega
      have hk256 : (k : Int) < 257 := by omega
      have hkz : (k : Int) ≥ 0 := by omega
      have HA := Lib.hid (fun (W : World) (hW : Below wr.heap.size wr W) => show At W ⟨g, k1 * 32, none⟩ s from by rw [← hn1, hk1]; exact at_nth (hf.below hW) (by omega))
      have HR := Lib.hid (And.intro hf (And.intro hl (And.intro hall hb)))
      have HS := Lib.hid (And.intro ls2 (And.intro hE2 (show k < 256 by omega)))
      clear hf hl hall hb hzm hm hs hs2 hn1 hE2 bs hk1 h0
      go_upto_region 6 with fail
      refine wp_region_quiet_tail (C := fun w' => Below wr.heap.size wr w') 13 (by kernel_rfl) (by kernel_rfl) ((Below.refl _ _).drew) ?_
      simp only [List.take_succ_cons, List.take_zero, List.drop_succ_cons, List.drop_zero]
      refine wpQuiet_step (fun K hK => ?_)
      go_simp
      refine ⟨_, fun _ _ => rfl, hK _ ?_⟩
      clear hK K
      refine wpQuiet_step (fun K hK => ?_)
      go_simp
      refine ⟨_, fun _ _ => rfl, hK _ ?_⟩
      clear hK K
      refine wpQuiet_step (fun K hK => ?_)
      go_simp
      refine ⟨_, fun _ _ => rfl, hK _ ?_⟩
      clear hK K
      refine wpQuiet_step (fun K hK => ?_)
      go_simp
      refine ⟨_, fun _ _ => rfl, hK _ ?_⟩
      clear hK K
      refine wpQuiet_step (fun K hK => ?_)
      go_simp
      refine ⟨_, fun _ _ => rfl, hK _ ?_⟩
      clear hK K
      refine wpQuiet_step (fun K hK => ?_)
      go_simp
      refine ⟨_, fun _ _ => rfl, hK _ ?_⟩
      clear hK K
      refine wpQuiet_step (fun K hK => ?_)
      refine quiet_load_sum rfl (.tmp 17) rfl ⟨g, k1 * 32, none⟩ rfl s ls (fun W hC => HA.out W hC) (hK _ ?_)
      clear hK K
      refine wpQuiet_step (fun K hK => ?_)
      go_simp
      refine ⟨_, fun _ _ => rfl, hK _ ?_⟩
      clear hK K
      refine wpQuiet_step (fun K hK => ?_)
      go_simp
      refine ⟨_, fun _ _ => rfl, hK _ ?_⟩
      clear hK K
      refine wpQuiet_step (fun K hK => ?_)
      go_simp
      refine ⟨_, fun _ _ => rfl, hK _ ?_⟩
      clear hK K
      refine wpQuiet_step (fun K hK => ?_)
      go_simp
      refine ⟨_, fun _ _ => rfl, hK _ ?_⟩
      clear hK K
      refine wpQuiet_step (fun K hK => ?_)
      refine quiet_load_sum rfl (.tmp 22) rfl ⟨g, k1 * 32, none⟩ rfl s ls (fun W hC => HA.out W hC) (hK _ ?_)
      clear hK K
      refine wpQuiet_step (fun K hK => ?_)
      go_simp
      refine ⟨sv s2, fun W hW => (CS.out W).mono fun e w' ⟨h1, h2⟩ => ⟨h1, below_on hW (Nat.le_refl _) h2⟩, hK _ ?_⟩
      clear hK K
      refine wpQuiet_nil ?_
      intro w3 hb3
      have hz := HR.out.1.below hb3
      have hq := below_on HR.out.2.2.2 (Nat.le_of_eq HG.out.symm) hb3
      have hw : Below g w (w3.setRow g (bvs (splice ys (k * 32) s2)).toArray) := below_setRow hq (Nat.le_refl _) _
      have hf2 := hz.setRow (splice ys (k * 32) s2)
      have HZ3 := Lib.hid (And.intro hz (And.intro hw hf2))
      clear hz hq hw hf2
      go_wp2_with (with_reducible refine wpList_put_sum rfl (.tmp 25) (.tmp 24) rfl (k := k) ys s2 rfl rfl HZ3.out.1 HS.out.1 (by rw [HR.out.2.1]; have := HS.out.2.2; omega) ?_)
      go_roundw
      case rel =>
        refine ⟨(k : Int) - 1, k, splice ys (k * 32) s2, by go_num, rfl, by have := HS.out.2.2; omega, HZ3.out.2.2, by rw [splice_len (by rw [HR.out.2.1, HS.out.1]; have := HS.out.2.2; omega), HR.out.2.1], fun j h1 h2 => ?_, HZ3.out.2.1⟩
        rw [nth_splice HS.out.1 (by rw [HR.out.2.1]; have := HS.out.2.2; omega)]
        split
        · rename_i h; rw [h, HS.out.2.1]
        · exact HR.out.2.2.1 j (by omega) h2
      case measure => simp [intOf]

set_option maxRecDepth 100000 in
set_option maxHeartbeats 2000000 in
theorem jrefEmpty_any (z : Int) (w : World) (_ : -9223372036854775808 ≤ z ∧ z ≤ 9223372036854775807) :
    Calls Tryd.prog 22 #[.int .i64 z] w fun e w' => e = .returned (sv (emptyZ z)) ∧ Below w.heap.size w w' := by
  have e0 : (bvs zero32).toArray = #[.int .u8 0, .int .u8 0, .int .u8 0, .int .u8 0, .int .u8 0, .int .u8 0, .int .u8 0, .int .u8 0, .int .u8 0, .int .u8 0, .int .u8 0, .int .u8 0, .int .u8 0, .int .u8 0, .int .u8 0, .int .u8 0, .int .u8 0, .int .u8 0, .int .u8 0, .int .u8 0, .int .u8 0, .int .u8 0, .int .u8 0, .int .u8 0, .int .u8 0, .int .u8 0, .int .u8 0, .int .u8 0, .int .u8 0, .int .u8 0, .int .u8 0, .int .u8 0] := rfl
  have f1 := BArr.new w 36 zero32
  have b1 := below_alloc w (.cells (bvs zero32).toArray 36)
  rw [e0] at f1 b1
  clear e0
  obtain ⟨w1, hw1⟩ : ∃ w1, w1 = w.alloc (.cells #[.int .u8 0, .int .u8 0, .int .u8 0, .int .u8 0, .int .u8 0, .int .u8 0, .int .u8 0, .int .u8 0, .int .u8 0, .int .u8 0, .int .u8 0, .int .u8 0, .int .u8 0, .int .u8 0, .int .u8 0, .int .u8 0, .int .u8 0, .int .u8 0, .int .u8 0, .int .u8 0, .int .u8 0, .int .u8 0, .int .u8 0, .int .u8 0, .int .u8 0, .int .u8 0, .int .u8 0, .int .u8 0, .int .u8 0, .int .u8 0, .int .u8 0, .int .u8 0] 36) := ⟨_, rfl⟩
  rw [← hw1] at f1 b1
  have HW := Lib.hid hw1
  have CA := Lib.hid (jrefAll_any w1)
  obtain ⟨g, hg⟩ : ∃ g, w.heap.size = g := ⟨_, rfl⟩
  have HG := Lib.hid hg
  rw [hg] at f1 b1
  have HF := Lib.hid (And.intro f1 b1)
  rw [hg]
  clear hg
  have key : ∀ (d : Nat) (s : List Nat), d ≤ 256 → emptyZ z = emptyU (256 - d) → emptyU (256 - d) = s → True := fun _ _ _ _ _ => trivial
  clear key
  by_cases hneg : z < 0
  · have he : emptyZ z = emptyU (256 - 0) := by unfold emptyZ; rw [clamp_neg hneg]
    obtain ⟨s, hs⟩ : ∃ s, emptyU (256 - 0) = s := ⟨_, rfl⟩
    have ls : s.length = 32 := by rw [← hs]; exact emptyU_length _
    rw [hs] at he
    have HE := Lib.hid (And.intro he hs)
    clear f1 b1 hw1 he hs
    go_enter Tryd.func22, Tryd.ntmps22
    go_upto_region 1 with fail
    rw [← HW.out]
    rw [HG.out]
    go_wp2_with fail
    refine CA.out.mono ?_
    rintro e w2 ⟨p, ys, rfl, ⟨hb, hl, hall⟩, hb2, hp⟩
    have hat : At w2 ⟨p, 0, none⟩ s := by
      have h := at_nth (k := 0) hb (by omega)
      rw [hall 0 (by omega), HE.out.2] at h
      exact h
    have f2 := HF.out.1.below hb2
    have HB2 := Lib.hid (And.intro hat (And.intro f2 (below_on HF.out.2 (Nat.le_of_eq HG.out.symm) hb2)))
    have HZ32 := Lib.hid (show zero32.length = 32 from rfl)
    clear hb hl hall hb2 hp hat f2
    go_wp2_with (first
      | (refine wpList_load_sum rfl (.tmp 7) rfl _ rfl s ls ?_ ?_; (· first | exact HB2.out.1 | (rw [show (if 0 < d then (d : Int) else 0).toNat = d by split <;> omega]; exact HB2.out.1)))
      | (with_reducible refine wpList_store_sum rfl (.tmp 2) (.tmp 8) rfl g rfl zero32 s HZ32 ls HB2.out.2.1 rfl ?_))
    all_goals
     refine bodyPost_ret_by (results_cell_row (p := 2) (ty := 36) (by kernel_rfl) _ _ g 36 (bvs s).toArray (0, 0) _ rfl (HB2.out.2.1.setRow _) Tryd.underlying36 rfl (by rw [List.size_toArray, bvs_length, ls]; exact sizeSum)) rfl ?_
     exact ⟨by rw [HE.out.1] <;> rfl, below_setRow HB2.out.2.2 (Nat.le_refl _) _⟩
  by_cases hbig : 256 ≤ z
  · have he : emptyZ z = emptyU (256 - 256) := by unfold emptyZ; rw [clamp_big hbig]
    obtain ⟨s, hs⟩ : ∃ s, emptyU (256 - 256) = s := ⟨_, rfl⟩
    have ls : s.length = 32 := by rw [← hs]; exact emptyU_length _
    rw [hs] at he
    have HE := Lib.hid (And.intro he hs)
    clear f1 b1 hw1 he hs
    go_enter Tryd.func22, Tryd.ntmps22
    go_upto_region 1 with fail
    rw [← HW.out]
    rw [HG.out]
    go_wp2_with fail
    refine CA.out.mono ?_
    rintro e w2 ⟨p, ys, rfl, ⟨hb, hl, hall⟩, hb2, hp⟩
    have hat : At w2 ⟨p, 8192, none⟩ s := by
      have h := at_nth (k := 256) hb (by omega)
      rw [hall 256 (by omega), HE.out.2] at h
      exact h
    have f2 := HF.out.1.below hb2
    have HB2 := Lib.hid (And.intro hat (And.intro f2 (below_on HF.out.2 (Nat.le_of_eq HG.out.symm) hb2)))
    have HZ32 := Lib.hid (show zero32.length = 32 from rfl)
    clear hb hl hall hb2 hp hat f2
    go_wp2_with (first
      | (refine wpList_load_sum rfl (.tmp 7) rfl _ rfl s ls ?_ ?_; (· first | exact HB2.out.1 | (rw [show (if 0 < d then (d : Int) else 0).toNat = d by split <;> omega]; exact HB2.out.1)))
      | (with_reducible refine wpList_store_sum rfl (.tmp 2) (.tmp 8) rfl g rfl zero32 s HZ32 ls HB2.out.2.1 rfl ?_))
    all_goals
     refine bodyPost_ret_by (results_cell_row (p := 2) (ty := 36) (by kernel_rfl) _ _ g 36 (bvs s).toArray (0, 0) _ rfl (HB2.out.2.1.setRow _) Tryd.underlying36 rfl (by rw [List.size_toArray, bvs_length, ls]; exact sizeSum)) rfl ?_
     exact ⟨by rw [HE.out.1] <;> rfl, below_setRow HB2.out.2.2 (Nat.le_refl _) _⟩
  · obtain ⟨d, rfl⟩ := Int.eq_ofNat_of_zero_le (Int.not_lt.1 hneg)
    have hd : (d : Int) < 256 := by omega
    have hd7 : (d : Int) < 257 := by omega
    have hmn : min (256 : Int) (d : Int) = (d : Int) := by omega
    have hmx : max (0 : Int) (d : Int) = (d : Int) := by omega
    have he : emptyZ (d : Int) = emptyU (256 - d) := by unfold emptyZ; rw [clamp_mid (by omega) hd]; rfl
    obtain ⟨s, hs⟩ : ∃ s, emptyU (256 - d) = s := ⟨_, rfl⟩
    have ls : s.length = 32 := by rw [← hs]; exact emptyU_length _
    rw [hs] at he
    have HE := Lib.hid (And.intro he hs)
    clear f1 b1 hw1 he hs
    go_enter Tryd.func22, Tryd.ntmps22
    go_upto_region 1 with fail
    rw [← HW.out]
    rw [HG.out]
    go_wp2_with fail
    refine CA.out.mono ?_
    rintro e w2 ⟨p, ys, rfl, ⟨hb, hl, hall⟩, hb2, hp⟩
    have hat : At w2 ⟨p, d * 32, none⟩ s := by
      have h := at_nth (k := d) hb (by omega)
      rw [hall d (by omega), HE.out.2] at h
      exact h
    have f2 := HF.out.1.below hb2
    have HB2 := Lib.hid (And.intro hat (And.intro f2 (below_on HF.out.2 (Nat.le_of_eq HG.out.symm) hb2)))
    have HZ32 := Lib.hid (show zero32.length = 32 from rfl)
    clear hb hl hall hb2 hp hat f2
    go_wp2_with (first
      | (refine wpList_load_sum rfl (.tmp 7) rfl _ rfl s ls ?_ ?_; (· first | exact HB2.out.1 | (rw [show (if 0 < d then (d : Int) else 0).toNat = d by split <;> omega]; exact HB2.out.1)))
      | (with_reducible refine wpList_store_sum rfl (.tmp 2) (.tmp 8) rfl g rfl zero32 s HZ32 ls HB2.out.2.1 rfl ?_))
    all_goals
     refine bodyPost_ret_by (results_cell_row (p := 2) (ty := 36) (by kernel_rfl) _ _ g 36 (bvs s).toArray (0, 0) _ rfl (HB2.out.2.1.setRow _) Tryd.underlying36 rfl (by rw [List.size_toArray, bvs_length, ls]; exact sizeSum)) rfl ?_
     exact ⟨by rw [HE.out.1] <;> rfl, below_setRow HB2.out.2.2 (Nat.le_refl _) _⟩

end Go.Proofs.YtnaebjdccngeoaaDoor
