/-
  MacsBytes: two sums are the same just if each byte is.
-/
import Derived.Test.YtoojlpbfldnkpaaMacRefSame
import Derived.Test.YtoojlpbfldnkpaaLBArr
import Derived.Test.YtoojlpbfldnkpaaLQuietTail
import Derived.StillTailTactics
import Derived.Deep.Cut
namespace Go.Proofs.Ytoojlpbfldnkpaa
open Go.RowKit

theorem zero32_lit : (bvs (List.replicate 32 0)).toArray = #[.int .u8 0, .int .u8 0, .int .u8 0, .int .u8 0, .int .u8 0, .int .u8 0, .int .u8 0, .int .u8 0, .int .u8 0, .int .u8 0, .int .u8 0, .int .u8 0, .int .u8 0, .int .u8 0, .int .u8 0, .int .u8 0, .int .u8 0, .int .u8 0, .int .u8 0, .int .u8 0, .int .u8 0, .int .u8 0, .int .u8 0, .int .u8 0, .int .u8 0, .int .u8 0, .int .u8 0, .int .u8 0, .int .u8 0, .int .u8 0, .int .u8 0, .int .u8 0] := rfl

theorem rem32 (x : Nat) : Int.tmod (x : Int) 32 = ((x % 32 : Nat) : Int) := by
  rw [Int.tmod_eq_emod_of_nonneg (by omega)]; omega
theorem set_bytes {xs : List Nat} {i v : Nat} (h : ∀ x ∈ xs, x < 256) (hv : v < 256) : ∀ x ∈ xs.set i v, x < 256 := by
  intro x hx
  rcases List.mem_or_eq_of_mem_set hx with h1 | rfl
  · exact h x h1
  · exact hv

/-- A sum that may be asked for, in a region that only reads and calls. -/
theorem quiet_load_sum' {ops : Array Oper} {o : Oper} {a : Act} {C : World → Prop} {K : Act → Prop} {E : Prop} (hw : Region.wanted o (yielded ops a.tmps) = true) (x : Operand) (ho : o.op = .load 23 x)
    (ad : Addr) (hx : a.eval x = .pointer (some ad)) (s : List Nat) (hl : s.length = 32) (hc : ∀ w, C w → At w ad s) (h : K (a.put o.dst (sv s))) :
    if Region.wanted o (yielded ops a.tmps) = true then o.quiet Try.prog a C K else E := by
  rw [if_pos hw]
  refine ⟨sv s, fun w hC => ?_, h⟩
  unfold Oper.quietAt execOp
  simp only [ho, hx, Instr.loadAt, Instr.sureAddr, Sem.run_bind, Sem.run_pure, Result.andThen_ok, run_load_sum w ad s hl (hc w hC)]
  exact ⟨rfl, rfl⟩

theorem getD_lt {xs : List Nat} (h : ∀ x ∈ xs, x < 256) (i : Nat) : xs.getD i 0 < 256 := by
  rw [List.getD_eq_getElem?_getD]
  cases e : xs[i]? with
  | none => simp
  | some x => exact h x (List.mem_of_getElem? e)

set_option maxRecDepth 100000 in
set_option maxHeartbeats 1000000 in
theorem bytes_law (s at3 by3 : List Nat) (w : World) (hs : s.length = 32) (ha : at3.length = 3) (hb : by3.length = 3) (ls : ∀ x ∈ s, x < 256) (la : ∀ x ∈ at3, x < 256) (lb : ∀ x ∈ by3, x < 256) :
    Calls Try.prog 3 #[sv s, .agg (bvs at3).toArray, .agg (bvs by3).toArray] w fun e w' => e = .returned (.bool true) ∧ Below w.heap.size w w' := by
  obtain ⟨W, hW⟩ : ∃ W, W = ((w.alloc (.cells (bvs s).toArray 23)).alloc (.cells (bvs at3).toArray 24)).alloc (.cells (bvs by3).toArray 24) := ⟨_, rfl⟩
  have z1 : W.heap.size = w.heap.size + 3 := by rw [hW]; simp
  have f1 : BArr W w.heap.size 23 s := by rw [hW]; exact ((BArr.new w _ s).alloc _).alloc _
  have f2 : BArr W (w.heap.size + 1) 24 at3 := by
    have := (BArr.new (w.alloc (.cells (bvs s).toArray 23)) 24 at3).alloc (.cells (bvs by3).toArray 24)
    rw [World.size_alloc] at this
    rw [hW]; exact this
  have f3 : BArr W (w.heap.size + 1 + 1) 24 by3 := by
    have := BArr.new ((w.alloc (.cells (bvs s).toArray 23)).alloc (.cells (bvs at3).toArray 24)) 24 by3
    rw [World.size_alloc, World.size_alloc] at this
    rw [hW]; exact this
  have bel : Below w.heap.size w W := by rw [hW]; exact ((below_alloc w _).alloc (by simp) _).alloc (by simp; omega) _
  have HL := Lib.hid (And.intro hs (And.intro ha (And.intro hb (And.intro ls (And.intro la lb)))))
  have HI := Lib.hid (And.intro f1 (And.intro f2 (And.intro f3 (And.intro bel z1))))
  clear hs ha hb ls la lb f1 f2 f3 bel z1
  go_enter Try.func3, Try.ntmps3
  unfold sv
  go_upto_region 1 with (fail)
  rw [← hW]
  clear hW
  go_upto_region 2 with (first
    | (with_reducible refine wpList_load_sum rfl (.tmp 3) rfl ⟨w.heap.size, 0, none⟩ rfl s HL.out.1 HI.out.1.at_ ?_)
    | (with_reducible refine wpList_store_new W _ ?_ rfl (.tmp 7) (.tmp 9) rfl rfl s HL.out.1 rfl ?_))
  · rfl
  have z0 := HI.out.2.2.2.2
  obtain ⟨W1, hW1⟩ : ∃ W1, W1 = W.alloc (.cells (bvs s).toArray 23) := ⟨_, rfl⟩
  have g1 : BArr W1 w.heap.size 23 s := by rw [hW1]; exact HI.out.1.alloc _
  have g2 : BArr W1 (w.heap.size + 1) 24 at3 := by rw [hW1]; exact HI.out.2.1.alloc _
  have g3 : BArr W1 (w.heap.size + 1 + 1) 24 by3 := by rw [hW1]; exact HI.out.2.2.1.alloc _
  have g4 : BArr W1 (w.heap.size + 3) 23 s := by rw [hW1, ← z0]; exact BArr.new W _ s
  have bel1 : Below w.heap.size w W1 := by rw [hW1]; exact HI.out.2.2.2.1.alloc HI.out.2.2.2.1.size _
  rw [← hW1]
  rw [z0]
  have HG := Lib.hid (And.intro g1 (And.intro g2 (And.intro g3 (And.intro g4 bel1))))
  clear hW1 g1 g2 g3 g4 bel1 HI z0
  go_wp2
  go_loopw [8] (fun i wr => ∃ (j : Nat) (x : List Nat), j ≤ 3 ∧ i = .int .i64 (j : Int) ∧ x.length = 32 ∧ (∀ y ∈ x, y < 256) ∧ BArr wr w.heap.size 23 s ∧ BArr wr (w.heap.size + 1) 24 at3 ∧ BArr wr (w.heap.size + 1 + 1) 24 by3 ∧ BArr wr (w.heap.size + 3) 23 x ∧ Below w.heap.size w wr) (fun i _ => 3 - (intOf i).toNat)
  case atStart => exact ⟨0, s, by omega, rfl, HL.out.1, HL.out.2.2.2.1, HG.out.1, HG.out.2.1, HG.out.2.2.1, HG.out.2.2.2.1, HG.out.2.2.2.2⟩
  case round =>
    clear HG
    obtain ⟨j, x, hj, rfl, hx, lx, g1, g2, g3, g4, bel⟩ := hrel
    by_cases hlt : j < 3
    · have c2 := g2.cell (i := j) (by rw [HL.out.2.1]; exact hlt)
      have c3 := g3.cell (i := j) (by rw [HL.out.2.2.1]; exact hlt)
      have ba := getD_lt HL.out.2.2.2.2.1 j
      have bb := getD_lt HL.out.2.2.2.2.2 j
      obtain ⟨a, hda⟩ : ∃ a, at3.getD j 0 = a := ⟨_, rfl⟩
      obtain ⟨b, hdb⟩ : ∃ b, by3.getD j 0 = b := ⟨_, rfl⟩
      rw [hda] at c2 ba
      rw [hdb] at c3 bb
      have q2 := rem32 a
      have hk32 : a % 32 < 32 := Nat.mod_lt _ (by omega)
      obtain ⟨k, hk⟩ : ∃ k, a % 32 = k := ⟨_, rfl⟩
      rw [hk] at q2 hk32
      have c4 := g4.cell (i := k) (by rw [hx]; omega)
      have b4 := getD_lt lx k
      have f4 := g4.free k
      obtain ⟨y, hy⟩ : ∃ y, x.getD k 0 = y := ⟨_, rfl⟩
      rw [hy] at c4 b4
      have q1 := u8_xor_nat y b b4 bb
      have hki : (k : Int) < 32 := by omega
      have HX := Lib.hid (And.intro hda (And.intro hdb (And.intro hy (And.intro hx lx))))
      clear hda hdb hy hx lx hk
      go_wp2
      go_still_tail 10, (by kernel_rfl)
      change wpList _ _ _ _ _ wr.drew
      go_wp2
      go_roundw
      case rel =>
        have bel' : Below w.heap.size w wr.drew := ⟨bel.os, bel.tape, bel.output, bel.size, bel.block⟩
        refine ⟨j + 1, x.set k (y ^^^ b), by omega, by go_num, by rw [List.length_set]; exact HX.out.2.2.2.1, set_bytes HX.out.2.2.2.2 (xor_byte b4 bb), g1.drew.other _ _ (by show w.heap.size ≠ w.heap.size + 3; omega), g2.drew.other _ _ (by show w.heap.size + 1 ≠ w.heap.size + 3; omega), g3.drew.other _ _ (by show w.heap.size + 1 + 1 ≠ w.heap.size + 3; omega), g4.drew.set _ _, bel'.setCell (by show w.heap.size ≤ w.heap.size + 3; omega) _⟩
      case measure => simp [intOf]; omega
    · obtain rfl : j = 3 := by omega
      obtain ⟨dd, hd1⟩ : ∃ b, decide (s = x) = b := ⟨_, rfl⟩
      obtain ⟨de, hd2⟩ : ∃ b, decide (x = s) = b := ⟨_, rfl⟩
      have CS1 := Lib.hid (fun (W : World) (_ : Below wr.heap.size wr W) => same_any s x W HL.out.1 hx HL.out.2.2.2.1 lx)
      have CS2 := Lib.hid (fun (W : World) (_ : Below wr.heap.size wr W) => refSame_any s x W HL.out.1 hx)
      have CS3 := Lib.hid (fun (W : World) (_ : Below wr.heap.size wr W) => same_any x s W hx HL.out.1 lx HL.out.2.2.2.1)
      have CS4 := Lib.hid (fun (W : World) (_ : Below wr.heap.size wr W) => same_any s s W HL.out.1 HL.out.1 HL.out.2.2.2.1 HL.out.2.2.2.1)
      rw [hd1] at CS1 CS2
      rw [hd2] at CS3
      rw [decide_eq_true rfl] at CS4
      have q1 := run_eql_sum x s hx HL.out.1
      rw [hd2] at q1
      have q2 := run_guard_eql
      have HB := Lib.hid (And.intro g1 (And.intro g4 (And.intro bel (And.intro hx lx))))
      clear g1 g2 g3 g4 bel hx lx hd1 hd2
      go_wp2
      refine wp_region_quiet (C := fun w' => Below wr.heap.size wr w') (by kernel_rfl) (by kernel_rfl) ((Below.refl _ _).drew) ?_
      refine wpQuiet_step (fun K hK => ?_)
      refine quiet_load_sum rfl (.tmp 3) rfl ⟨w.heap.size, 0, none⟩ rfl s HL.out.1 (fun W hC => HB.out.1.at_.below hC) (hK _ ?_)
      clear hK K
      refine wpQuiet_step (fun K hK => ?_)
      refine quiet_load_sum rfl (.tmp 7) rfl ⟨w.heap.size + 3, 0, none⟩ rfl x HB.out.2.2.2.1 (fun W hC => HB.out.2.1.at_.below hC) (hK _ ?_)
      clear hK K
      refine wpQuiet_step (fun K hK => ?_)
      go_simp
      refine ⟨.bool dd, fun W hC => (CS1.out W hC).mono fun e w'' ⟨he, hb'⟩ => ⟨he, below_on hC (Nat.le_refl _) hb'⟩, hK _ ?_⟩
      clear hK K
      refine wpQuiet_step (fun K hK => ?_)
      refine quiet_load_sum rfl (.tmp 3) rfl ⟨w.heap.size, 0, none⟩ rfl s HL.out.1 (fun W hC => HB.out.1.at_.below hC) (hK _ ?_)
      clear hK K
      refine wpQuiet_step (fun K hK => ?_)
      refine quiet_load_sum rfl (.tmp 7) rfl ⟨w.heap.size + 3, 0, none⟩ rfl x HB.out.2.2.2.1 (fun W hC => HB.out.2.1.at_.below hC) (hK _ ?_)
      clear hK K
      refine wpQuiet_step (fun K hK => ?_)
      go_simp
      refine ⟨.bool dd, fun W hC => (CS2.out W hC).mono fun e w'' ⟨he, hb'⟩ => ⟨he, below_on hC (Nat.le_refl _) hb'⟩, hK _ ?_⟩
      clear hK K
      iterate 2 (refine wpQuiet_step (fun K hK => ?_); go_simp; refine ⟨_, fun _ _ => rfl, hK _ ?_⟩; clear hK K)
      refine wpQuiet_step (fun K hK => ?_)
      refine quiet_load_sum' (by rfl) (.tmp 7) rfl ⟨w.heap.size + 3, 0, none⟩ rfl x HB.out.2.2.2.1 (fun W hC => HB.out.2.1.at_.below hC) (hK _ ?_)
      clear hK K
      refine wpQuiet_step (fun K hK => ?_)
      refine quiet_load_sum' (by rfl) (.tmp 3) rfl ⟨w.heap.size, 0, none⟩ rfl s HL.out.1 (fun W hC => HB.out.1.at_.below hC) (hK _ ?_)
      clear hK K
      refine wpQuiet_step (fun K hK => ?_)
      go_simp
      refine ⟨.bool de, fun W hC => (CS3.out W hC).mono fun e w'' ⟨he, hb'⟩ => ⟨he, below_on hC (Nat.le_refl _) hb'⟩, hK _ ?_⟩
      clear hK K
      refine wpQuiet_step (fun K hK => ?_)
      refine quiet_load_sum' (by rfl) (.tmp 7) rfl ⟨w.heap.size + 3, 0, none⟩ rfl x HB.out.2.2.2.1 (fun W hC => HB.out.2.1.at_.below hC) (hK _ ?_)
      clear hK K
      refine wpQuiet_step (fun K hK => ?_)
      refine quiet_load_sum' (by rfl) (.tmp 3) rfl ⟨w.heap.size, 0, none⟩ rfl s HL.out.1 (fun W hC => HB.out.1.at_.below hC) (hK _ ?_)
      clear hK K
      iterate 4 (refine wpQuiet_step (fun K hK => ?_); go_simp; refine ⟨_, fun _ _ => rfl, hK _ ?_⟩; clear hK K)
      iterate 2 (refine wpQuiet_step (fun K hK => ?_); refine quiet_load_sum' (by rfl) (.tmp 3) rfl ⟨w.heap.size, 0, none⟩ rfl s HL.out.1 (fun W hC => HB.out.1.at_.below hC) (hK _ ?_); clear hK K)
      refine wpQuiet_step (fun K hK => ?_)
      go_simp
      refine ⟨.bool true, fun W hC => (CS4.out W hC).mono fun e w'' ⟨he, hb'⟩ => ⟨he, below_on hC (Nat.le_refl _) hb'⟩, hK _ ?_⟩
      clear hK K
      repeat (refine wpQuiet_step (fun K hK => ?_); go_simp; refine ⟨_, fun _ _ => rfl, hK _ ?_⟩; clear hK K)
      refine wpQuiet_nil ?_
      intro w8 hb8
      go_wp2
      go_ret
      exact ⟨rfl, below_on HB.out.2.2.1 (Nat.le_refl _) hb8⟩

end Go.Proofs.Ytoojlpbfldnkpaa
