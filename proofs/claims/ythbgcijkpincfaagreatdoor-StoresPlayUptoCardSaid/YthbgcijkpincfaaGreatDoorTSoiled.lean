/-
  The sectors behind the end that are not all noughts.
-/
import Derived.Test.YthbgcijkpincfaaGreatDoorTSectors
import Derived.Test.YthbgcijkpincfaaGreatDoorTEqual
import Derived.Test.YthbgcijkpincfaaGreatDoorTSto
namespace Go.Proofs.YthbgcijkpincfaaGreatDoor
open Go.RowKit Go.Shelf

attribute [local go_sem] Oper.semAt_some

/-- Cells of these types are left alone. -/
def Mine_ (t : TypeId) : Prop := t = 119 ∨ t = 33 ∨ t = 129 ∨ t = 50 ∨ t = 5 ∨ t = 121

/-- What the function has laid, and the store. -/
structure Soil (b sb gd from_ many u l : Nat) (v : Value) (down : Bool) (W : World) : Prop where
  b0 : Boxed W b 33 (.pointer (some ⟨sb, 0, none⟩))
  b1 : Boxed W (b + 1) 129 (.func (.yield l) #[] #[])
  b2 : BArr W (b + 2) 5 nought
  b3 : Boxed W (b + 3) 50 (.slice (some ⟨b + 2, 0, none⟩) 64 64)
  row : W.heap[sb]? = some (.cells #[.pointer (some ⟨gd, 0, none⟩), .int .i64 (from_ : Int), .int .i64 (many : Int), v, .int .i64 (u : Int), .bool down] 121 (0, 0))
section
variable {b sb gd from_ many u l : Nat} {v : Value} {down : Bool} {W W' : World}
theorem Soil.keep (h : Soil b sb gd from_ many u l v down W) {Ty : TypeId → Prop} (hT : ∀ t, Mine_ t → Ty t) (hk : KeepT Ty W W') : Soil b sb gd from_ many u l v down W' :=
  ⟨hk _ _ _ _ (hT _ (.inr (.inl rfl))) h.b0, hk _ _ _ _ (hT _ (.inr (.inr (.inl rfl)))) h.b1, hk _ _ _ _ (hT _ (.inr (.inr (.inr (.inr (.inl rfl)))))) h.b2, hk _ _ _ _ (hT _ (.inr (.inr (.inr (.inl rfl))))) h.b3, hk _ _ _ _ (hT _ (.inr (.inr (.inr (.inr (.inr rfl)))))) h.row⟩
theorem Soil.step {row : Option Nat} (h : Soil b sb gd from_ many u l v down W) (hg : W.grownBy W' row) (hr : ∀ r, row = some r → ∃ o : Obj, W.heap[r]? = some o ∧ o.isCells = false) : Soil b sb gd from_ many u l v down W' :=
  ⟨Boxed.step h.b0 hg hr, Boxed.step h.b1 hg hr, row_step h.b2 hg hr, Boxed.step h.b3 hg hr, row_step h.row hg hr⟩
theorem Soil.drew (h : Soil b sb gd from_ many u l v down W) : Soil b sb gd from_ many u l v down W.drew := ⟨h.b0, h.b1, h.b2, h.b3, h.row⟩
end

set_option maxRecDepth 100000 in
set_option maxHeartbeats 2000000 in
theorem soiled_seq {sb gd from_ many u : Nat} {v : Value} {down : Bool} (T : List (List Nat)) (hT : T.length = many) (hTs : ∀ x ∈ T, Sec x) (hm : from_ + many ≤ 4096) (Ty : TypeId → Prop) (hTy : ∀ t, Mine_ t → Ty t) (G : List Nat → World → Prop) (W : World)
    (hG : ∀ k W1 xs, T[k]? = some xs → G (soils T u k) W1 → ∃ F s, Disk W1 gd F s ∧ s.read[from_ + k]? = some xs) (hGo : OwnFrom W.heap.size G) (h0G : G [] W)
    (hrow : W.heap[sb]? = some (.cells #[.pointer (some ⟨gd, 0, none⟩), .int .i64 (from_ : Int), .int .i64 (many : Int), v, .int .i64 (u : Int), .bool down] 121 (0, 0))) :
    SeqR Fence.wide 3 Tryz.prog 71 #[.pointer (some ⟨sb, 0, none⟩)] #[] (fun x : Nat => #[.int .i64 (x : Int)]) Ty (fun pre x W => x < many ∧ u ≤ x ∧ T[x]? ≠ some nought ∧ pre = soils T u x ∧ G pre W) G
      (fun xs _ => xs = soils T u many) (fun _ _ => True) W := by
  intro l J Jx hJ hJx hY h0
  refine callsIn_of_wp_marks Tryz.func71 rfl trivial ?_ rfl
  simp only [Tryz.ntmps71, List.size_toArray, List.length_cons, List.length_nil, Nat.reduceAdd, Nat.reduceSub, Array.replicate_succ, Array.replicate_zero, List.push_toArray, List.append_toArray, List.nil_append, List.cons_append]
  have hmk : ∀ W : World, (Instr.makeSlice 50 (.int .i64 64) (.int .i64 64)).run Tryz.prog W = .ok (.slice (some ⟨W.heap.size, 0, none⟩) 64 64) (W.alloc (.cells (bvs nought).toArray 5)) := fun W => by
    have h := make_bytes 64 64 (Nat.le_refl _) (by decide) W
    have e : madeCells #[.int .u8 0] 64 = (bvs nought).toArray := by rw [show nought = List.replicate 64 0 from rfl, ← zeroCells_bytes]; rfl
    rw [e] at h
    exact h
  obtain ⟨Z, hZ⟩ : ∃ Z, (bvs nought).toArray = Z := ⟨_, rfl⟩
  rw [hZ] at hmk
  have HZ := Lib.hid hZ
  clear hZ
  have hrl := (Array.getElem?_eq_some_iff.1 hrow).1
  have hbb : ∀ o1 o2 o3 o4, Below W.heap.size W ((((W.alloc o1).alloc o2).alloc o3).alloc o4) := fun o1 o2 o3 o4 => ((((Below.refl _ W).alloc (Nat.le_refl _) _).alloc (by simp) _).alloc (by simp <;> omega) _).alloc (by simp <;> omega) _
  have f0 : ∀ o1 o2 o3 o4, ((((W.alloc o1).alloc o2).alloc o3).alloc o4).cell? ⟨sb, 0, none⟩ = some (.pointer (some ⟨gd, 0, none⟩)) := fun o1 o2 o3 o4 => by
    rw [cell_of_row _ sb 0 _ _ (0, 0) (((hbb o1 o2 o3 o4).block sb hrl).trans hrow)]; rfl
  have f1 : ∀ o1 o2 o3 o4, ((((W.alloc o1).alloc o2).alloc o3).alloc o4).cell? ⟨sb, 1, none⟩ = some (.int .i64 (from_ : Int)) := fun o1 o2 o3 o4 => by
    rw [cell_of_row _ sb 1 _ _ (0, 0) (((hbb o1 o2 o3 o4).block sb hrl).trans hrow)]; rfl
  have f2 : ∀ o1 o2 o3 o4, ((((W.alloc o1).alloc o2).alloc o3).alloc o4).cell? ⟨sb, 2, none⟩ = some (.int .i64 (many : Int)) := fun o1 o2 o3 o4 => by
    rw [cell_of_row _ sb 2 _ _ (0, 0) (((hbb o1 o2 o3 o4).block sb hrl).trans hrow)]; rfl
  have HBB := Lib.hid hbb
  have HR := Lib.hid (And.intro hrow hrl)
  clear hbb hrow hrl
  gi_wp2
  obtain ⟨b, hb⟩ : ∃ b, W.heap.size = b := ⟨_, rfl⟩
  obtain ⟨W0, hW0⟩ : ∃ W0, W0 = (((W.alloc (.cells #[.pointer (some ⟨sb, 0, none⟩)] 33)).alloc (.cells #[.func (.yield l) #[] #[]] 129)).alloc (.cells Z 5)).alloc (.cells #[.slice (some ⟨W.heap.size + 1 + 1, 0, none⟩) 64 64] 50) := ⟨_, rfl⟩
  have z0 : W0.heap.size = b + 4 := by rw [hW0, ← hb]; simp
  have hb0 : Below W.heap.size W W0 := by rw [hW0]; exact HBB.out _ _ _ _
  have k0 : Soil b sb gd from_ many u l v down W0 := by
    have n1 := heap_alloc_new (W.alloc (.cells #[.pointer (some ⟨sb, 0, none⟩)] 33)) (.cells #[.func (.yield l) #[] #[]] 129)
    have n2 := heap_alloc_new ((W.alloc (.cells #[.pointer (some ⟨sb, 0, none⟩)] 33)).alloc (.cells #[.func (.yield l) #[] #[]] 129)) (.cells Z 5)
    have n3 := heap_alloc_new (((W.alloc (.cells #[.pointer (some ⟨sb, 0, none⟩)] 33)).alloc (.cells #[.func (.yield l) #[] #[]] 129)).alloc (.cells Z 5)) (.cells #[.slice (some ⟨W.heap.size + 1 + 1, 0, none⟩) 64 64] 50)
    simp only [World.size_alloc, Nat.add_assoc, Nat.reduceAdd] at n1 n2 n3
    refine ⟨?_, ?_, ?_, ?_, (hb0.block sb HR.out.2).trans HR.out.1⟩
    · unfold Boxed; rw [hW0, ← hb, heap_alloc_old _ _ _ (by simp <;> omega), heap_alloc_old _ _ _ (by simp <;> omega), heap_alloc_old _ _ _ (by simp), heap_alloc_new]
    · unfold Boxed; rw [hW0, ← hb, heap_alloc_old _ _ _ (by simp <;> omega), heap_alloc_old _ _ _ (by simp), n1]
    · unfold BArr; rw [hW0, ← hb, heap_alloc_old _ _ _ (by simp), n2, HZ.out]
    · unfold Boxed; rw [hW0, ← hb]; exact n3
  have j0 := own_below hJ h0 hb0
  have g0 := own_below hGo h0G hb0
  rw [← hW0, hb]
  clear hW0 f0 f1 f2 hmk
  refine wpIn_range_R rfl (by decide) (gf := 170) (bd := #[regionV gd from_ many]) (lb := #[]) rfl trivial (enters_of Tryz.func170 (by kernel_rfl) rfl)
    (encs := secV) (Ty := fun t => t = 119)
    (fun W1 hb1 => sectors_seq T hT hm (fun t => t = 119) rfl (fun k W => G (soils T u k) W) W1 hG (fun k s A B row h hg hr => hGo _ _ _ _ h hg (fun r e => ⟨by have := (hr r e).1; have := hb1.size; omega, (hr r e).2⟩)) (own_below hGo g0 hb1)) (fun _ => rfl)
    (fun pre x _ _ _ _ h hg hr => ⟨h.1, (by obtain ⟨xs, e, hB⟩ := h.2.1; exact ⟨xs, e, row_step hB hg (fun r e => (hr r e).2)⟩), hGo _ _ _ _ h.2.2 hg (fun r e => ⟨by have := (hr r e).1; omega, (hr r e).2⟩)⟩)
    (fun _ _ _ _ h hg hr => hGo _ _ _ _ h hg (fun r e => ⟨by have := (hr r e).1; omega, (hr r e).2⟩))
    (fun _ _ _ _ h hg hr => ⟨h.1, hGo _ _ _ _ h.2 hg (fun r e => ⟨by have := (hr r e).1; omega, (hr r e).2⟩)⟩) (fun _ _ _ _ h _ _ => h)
    (fun pre W => Soil b sb gd from_ many u l v down W ∧ J (soils T u pre.length) W ∧ G (soils T u pre.length) W)
    (fun pre W => ∃ ys, Jx ys W)
    (fun _ _ _ _ h hg hr => ⟨h.1.step hg (fun r e => (hr r e).2), hJ _ _ _ _ h.2.1 hg (fun r e => ⟨by have := (hr r e).1; omega, (hr r e).2⟩), hGo _ _ _ _ h.2.2 hg (fun r e => ⟨by have := (hr r e).1; omega, (hr r e).2⟩)⟩)
    (fun _ _ _ _ h hg hr => (by obtain ⟨ys, h⟩ := h; exact ⟨ys, hJx _ _ _ _ h hg (fun r e => ⟨by have := (hr r e).1; omega, (hr r e).2⟩)⟩)) ⟨k0, j0, g0⟩
    (fun x => { tmps := #[.pointer (some ⟨sb, 0, none⟩), .func (.yield l) #[] #[], .pointer (some ⟨b, 0, none⟩), .pointer (some ⟨b + 1, 0, none⟩), .pointer (some ⟨b + 1 + 1 + 1, 0, none⟩), .int .i64 (x.1 : Int), .slice (some ⟨x.2, 0, none⟩) 64 64, .slice (some ⟨b + 1 + 1, 0, none⟩) 64 64, .pointer (some ⟨sb, 0, none⟩), .pointer (some ⟨sb, 0, none⟩), .pointer (some ⟨sb, 0, none⟩),
      regionV gd from_ many, .func (.func 170) #[regionV gd from_ many] #[], .int .i64 (x.1 : Int), .slice (some ⟨x.2, 0, none⟩) 64 64, undef, undef, undef, undef, undef, undef, undef, undef, undef, undef, undef, undef, undef, undef, undef, undef, undef, undef], defers := [] }) ?assign ?body ?done ?stop
  case assign =>
    intro l2 x Wc K hK
    unfold secV
    gi_wp2
    exact hK
  case body =>
    rintro l2 pre ⟨k, Bn⟩ Wc ⟨hs, hj, hg⟩ ⟨hpre, ⟨xs, hxs, hB⟩, hg2⟩
    have hpl : pre.length = k := by
      have := congrArg List.length hpre
      rw [List.length_map, List.length_range] at this
      exact this
    rw [hpl] at hj hg
    have hkm := (List.getElem?_eq_some_iff.1 hxs).1
    rw [hT] at hkm
    have hxsec := hTs xs (List.mem_of_getElem? hxs)
    have e1 : (pre ++ [(k, Bn)]).length = k + 1 := by rw [List.length_append, hpl]; rfl
    have a0 := hs.b0.cell
    have a1 : Wc.cell? ⟨b + 1, 0, none⟩ = some (.func (.yield l) #[] #[]) := hs.b1.cell
    have a3 : Wc.cell? ⟨b + 1 + 1 + 1, 0, none⟩ = some (.slice (some ⟨b + 1 + 1, 0, none⟩) 64 64) := hs.b3.cell
    have a4 : Wc.cell? ⟨sb, 4, none⟩ = some (.int .i64 (u : Int)) := by rw [cell_of_row _ sb 4 _ _ (0, 0) hs.row]; rfl
    have nl : nought.length = 64 := rfl
    have i1 : In Wc (some ⟨Bn, 0, none⟩) 64 xs := ⟨hxsec.1, fun j y hy => ⟨_, rfl, hB.at_ j y hy⟩⟩
    have i2 : In Wc (some ⟨b + 1 + 1, 0, none⟩) 64 nought := ⟨nl, fun j y hy => ⟨_, rfl, hs.b2.at_ j y hy⟩⟩
    have CE := Lib.hid (equal_any (c := 64) (d := 64) i1 i2 hxsec.2 (fun y hy => by rw [List.eq_of_mem_replicate hy]; decide))
    by_cases hku : u ≤ k
    · have hki : (u : Int) ≤ (k : Int) := by omega
      by_cases hn : xs = nought
      · have hd : decide (xs = nought) = true := decide_eq_true hn
        rw [hd] at CE
        have hso : soils T u (k + 1) = soils T u k := soils_no (fun h => h.2 (by rw [hxs, hn]))
        have HF := Lib.hid (And.intro hs (And.intro hj (And.intro hg (And.intro hso e1))))
        clear hs hj hg hso e1 hg2 hpre hpl hxs hB hd i1 i2 hn
        gi_wp2_with (first
          | (refine ⟨trivial, ?_⟩; gi_at_call 143; refine (CallsIn.inRound l2 (callsIn_wide.2 CE.out)).mono ?_; rintro e w3 ⟨rfl, rfl⟩))
        refine ⟨fun _ h => (by cases h), ?_⟩
        gi_wp2
        refine ⟨KeepsFrom.refl _ _, KeepT.refl _ _, ?_, HF.out.1, ?_, ?_⟩
        · show G (soils T u (pre ++ [(k, Bn)]).length) _
          rw [HF.out.2.2.2.2, HF.out.2.2.2.1]; exact HF.out.2.2.1
        · rw [HF.out.2.2.2.2, HF.out.2.2.2.1]; exact HF.out.2.1
        · rw [HF.out.2.2.2.2, HF.out.2.2.2.1]; exact HF.out.2.2.1
      · have hd : decide (xs = nought) = false := decide_eq_false hn
        rw [hd] at CE
        have hTk : T[k]? ≠ some nought := by rw [hxs]; exact fun e => hn (Option.some.inj e)
        have hso : soils T u (k + 1) = soils T u k ++ [k] := soils_yes hku hTk
        obtain ⟨fn, tmps, assign, bdy, hy, hR⟩ := yield_within (F := Fence.wide) rfl 0 l2 (hY (soils T u k) k Wc hj ⟨hkm, hku, hTk, rfl, hg⟩)
        have HR2 := Lib.hid hR
        have HF := Lib.hid (And.intro hs (And.intro hso (And.intro e1 hb0.size)))
        clear hs hj hg hso e1 hg2 hpre hpl hxs hB hd i1 i2 hn hTk hR
        gi_wp2_with (first
          | (refine ⟨trivial, ?_⟩; gi_at_call 143; refine (CallsIn.inRound l2 (callsIn_wide.2 CE.out)).mono ?_; rintro e w3 ⟨rfl, rfl⟩))
        refine HR2.out.mono ?_
        rintro e w4 (⟨rfl, hJ4, hG4, hk4, hkf4⟩ | ⟨rfl, hJx4, hkf4⟩)
        · have H4 := Lib.hid (And.intro hJ4 (And.intro hG4 (And.intro hk4 hkf4)))
          clear hJ4 hG4 hk4 hkf4 HR2
          gi_wp2
          refine ⟨⟨H4.out.2.2.2.size, fun k o hk ho hc => H4.out.2.2.2.same k o (by have := HF.out.2.2.2; omega) ho hc⟩, H4.out.2.2.1.mono (fun t e => hTy t (.inl e)), ?_, HF.out.1.keep hTy H4.out.2.2.1, ?_, ?_⟩
          · show G (soils T u (pre ++ [(k, Bn)]).length) _
            rw [HF.out.2.2.1, HF.out.2.1]; exact H4.out.2.1
          · rw [HF.out.2.2.1, HF.out.2.1]; exact H4.out.1
          · rw [HF.out.2.2.1, HF.out.2.1]; exact H4.out.2.1
        · have H4 := Lib.hid (And.intro hJx4 hkf4)
          clear hJx4 hkf4 HR2
          gi_wp2
          exact ⟨⟨H4.out.2.size, fun k o hk ho hc => H4.out.2.same k o (by have := HF.out.2.2.2; omega) ho hc⟩, _, H4.out.1⟩
    · have hki : ¬ (u : Int) ≤ (k : Int) := by omega
      have hso : soils T u (k + 1) = soils T u k := soils_no (fun h => hku h.1)
      have HF := Lib.hid (And.intro hs (And.intro hj (And.intro hg (And.intro hso e1))))
      clear hs hj hg hso e1 hg2 hpre hpl hxs hB i1 i2
      gi_wp2_with (first
        | (refine ⟨trivial, ?_⟩; gi_at_call 143; refine (CallsIn.inRound l2 (callsIn_wide.2 CE.out)).mono ?_; rintro e w3 ⟨rfl, rfl⟩))
      refine ⟨trivial, ?_⟩
      gi_wp2
      refine ⟨fun _ h => (by cases h), ?_⟩
      gi_wp2
      refine ⟨KeepsFrom.refl _ _, KeepT.refl _ _, ?_, HF.out.1, ?_, ?_⟩
      · show G (soils T u (pre ++ [(k, Bn)]).length) _
        rw [HF.out.2.2.2.2, HF.out.2.2.2.1]; exact HF.out.2.2.1
      · rw [HF.out.2.2.2.2, HF.out.2.2.2.1]; exact HF.out.2.1
      · rw [HF.out.2.2.2.2, HF.out.2.2.2.1]; exact HF.out.2.2.1
  case done =>
    rintro D ys Wc hD ⟨hys, _⟩ ⟨hs, hj, _⟩ hK
    have hyl : ys.length = many := by
      have := congrArg List.length hys
      rw [List.length_map, List.length_range] at this
      exact this
    rw [hyl] at hj
    have hj2 := hJ _ _ _ _ hj (grownBy_putObj' _ D (.deferred none)) (fun r e => by cases e; exact ⟨by have := hb0.size; omega, _, hK, rfl⟩)
    gi_wp2
    refine ⟨by simp, .inl ⟨_, _, rfl, run_takeDeferred hK, ?_⟩⟩
    exact ⟨_, results_none rfl _ _ _, ⟨_, rfl⟩, .inl ⟨_, rfl, hj2⟩⟩
  case stop =>
    rintro D pre Wc hD _ ⟨ys, hj⟩ hK
    have hj2 := hJx _ _ _ _ hj (grownBy_putObj' _ D (.deferred none)) (fun r e => by cases e; exact ⟨by have := hb0.size; omega, _, hK, rfl⟩)
    gi_wp2
    refine ⟨by simp, .inl ⟨_, _, rfl, run_takeDeferred hK, ?_⟩⟩
    exact ⟨_, results_none rfl _ _ _, ⟨_, rfl⟩, .inr ⟨_, trivial, hj2⟩⟩

end Go.Proofs.YthbgcijkpincfaaGreatDoor
