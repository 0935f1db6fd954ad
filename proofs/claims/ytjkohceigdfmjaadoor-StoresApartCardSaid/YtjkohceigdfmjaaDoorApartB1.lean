/-
  Several texts in one: TFind, TRound, TClean, TOpen, TMath, DFail, TFresh, TSoilMath, TNeat, TCalls, FPut, TAdd, LSameBytes, TTools, TLive, TRest, TTwo, TAlive, TSmall, LRowApp, LApp2, TAll, TApartLaw, FLaid.
-/
import Derived.Test.YtjkohceigdfmjaaDoorTSoiled
import Derived.Test.YtjkohceigdfmjaaDoorTSteps
import Derived.Test.YtjkohceigdfmjaaDoorFGet
import Derived.Shelf.RegionOpen
import Derived.Maps.OwnIn
import Derived.Maps.AppendAt
import Derived.Test.YtjkohceigdfmjaaDoorTSeq
import Derived.Deep.RegionHeld3
import Derived.Test.YtjkohceigdfmjaaDoorTPure
import Derived.Test.YtjkohceigdfmjaaDoorDSync
import Derived.Deep.Cut
import Derived.Test.YtjkohceigdfmjaaDoorFNum
import Derived.Test.YtjkohceigdfmjaaDoorFBack
import Derived.Lib.SmallJoins
import Derived.ArgAppend
import Derived.Test.YtjkohceigdfmjaaDoorLMem
import Derived.Deep.QuietTactic
import Derived.BigQuiet
import Derived.Test.YtjkohceigdfmjaaDoorTGet
import Derived.Test.YtjkohceigdfmjaaDoorLStr
import Derived.Test.YtjkohceigdfmjaaDoorLRows
import Derived.Test.YtjkohceigdfmjaaDoorLBut
import Derived.Deep.Slices
import Derived.Test.YtjkohceigdfmjaaDoorDRead
import Derived.Test.YtjkohceigdfmjaaDoorFIs
import Derived.Test.YtjkohceigdfmjaaDoorRows
import Derived.ProofKit
import Derived.LaidMore
import Derived.OpenShut
import Derived.Stop.Joined
import Derived.Stop.LaidErr
import Derived.Stop.LaidTwo
/-
  find: the records that stand in the region, up to the end.
-/
namespace Go.Proofs.YtjkohceigdfmjaaDoor
open Go.RowKit Go.Shelf

attribute [local go_sem] Oper.semAt_some

/-- The sectors so far, in memory of the call's own, whose box is b. -/
structure Coll (w : World) (b gd : Nat) (F : Nat → Prop) (st : St) (xs : List Nat) (W : World) : Prop where
  row : ∃ v, Boxed W b 35 v ∧ W.ownsRow w.heap.size 5 1 v xs.length (bvs xs)
  disk : Disk W gd F st ∧ CellsIn F W
  bel : Below w.heap.size w W
theorem Coll.step {w W W' : World} {b gd : Nat} {F : Nat → Prop} {st : St} {xs : List Nat} {row : Option Nat} {B : Nat} (h : Coll w b gd F st xs W) (hB : w.heap.size ≤ B) (hg : W.grownBy W' row) (hr : ∀ r, row = some r → B ≤ r ∧ ∃ o : Obj, W.heap[r]? = some o ∧ o.isCells = false) : Coll w b gd F st xs W' := by
  obtain ⟨v, hv, ho⟩ := h.row
  have hr2 := fun r e => (hr r e).2
  refine ⟨⟨v, Boxed.step hv hg hr2, own_block ho (fun x hx => ?_)⟩, h.disk.1.step h.disk.2 hg hr2, h.bel.grown hg h.bel.size (fun k e => Nat.le_trans hB (hr k e).1)⟩
  obtain ⟨cur, hc⟩ := own_type ho hx
  exact (row_step hc hg hr2).trans hc.symm

/-- Records are found, one behind the other. -/
structure Finding (W2 : World) (sb gd from_ many : Nat) (G : Nat → Prop) (T : List (List Nat)) (l : List (List Nat)) (f : Nat) (G' : Nat → Prop) (wr : World) : Prop where
  sto : Sto wr sb gd from_ many G' l false
  g : ∀ x, G' x → G x ∨ W2.heap.size ≤ x
  but : But G W2 wr
  parse : l ++ parse f l.length (T.flatten.drop (64 * usedL l)) = found T
  fuel : (T.flatten.drop (64 * usedL l)).length ≤ 64 * f
/-- How many sectors the store has found, as its memory tells. -/
def usedIn (sb : Nat) (wr : World) : Nat := match wr.cell? ⟨sb, 4, none⟩ with | some v => (intOf v).toNat | none => 0
theorem Finding.used {W2 wr : World} {sb gd from_ many : Nat} {G G' : Nat → Prop} {T l : List (List Nat)} {f : Nat} (h : Finding W2 sb gd from_ many G T l f G' wr) : usedIn sb wr = usedL l := by
  obtain ⟨⟨v, vals, hh⟩, _⟩ := h.sto
  unfold usedIn
  rw [hh.c4]
  simp [intOf]
theorem own_zero' {w : World} {b n : Nat} {e : TypeId} {sz : Nat} {v : Value} {ys : List Value} (h : w.ownsRow b e sz v n ys) : w.ownsRow 0 e sz v n ys := by
  refine ⟨h.1, ?_⟩
  rcases h.2 with h | ⟨g, cap, cur, e, _, rest⟩
  · exact .inl h
  · exact .inr ⟨g, cap, cur, e, Nat.zero_le _, rest⟩
/-- Whatever comes behind an exit that is not taken. -/
theorem wp_calm {P : Program} {c : Code} {K : Act → World → Prop} {Q : Exit → Act → World → Prop} {a : Act} {w : World} (h : c.wp P (Exit.then K (fun _ _ _ => False)) a w) : c.wp P (Exit.then K Q) a w :=
  (wpIn_wide (n := 0)).1 (wpIn_mono ((wpIn_wide (n := 0)).2 h) (fun e a w h => by cases e <;> first | exact h | exact h.elim))
/-- What Get answers, in one form. -/
def Got (xs : List Nat) (w : World) (e : Ending) (w' : World) : Prop := ∃ (z1 : Int) (A : Option Addr) (n c : Nat) (z2 z3 : Int), e = .returned (.tuple #[.int .u64 z1, .slice A n c, .int .i64 z2, .int .i64 z3]) ∧ Below w.heap.size w w' ∧
  ((cutL xs ≠ none ∧ z3 ≠ 0) ∨ (cutL xs = none ∧ z3 = 0 ∧ z1 = (numOf xs : Int) ∧ z2 = ((secs (cntOf xs) : Nat) : Int) ∧ w'.ownsRow w.heap.size 5 1 (.slice A n c) (cntOf xs) (bvs (recOf xs))))
theorem got_of {xs : List Nat} {w : World} {e : Ending} {w' : World} (h : GetPost xs w e w') : Got xs w e w' := by
  obtain ⟨hb, ⟨b, hc, rfl⟩ | ⟨hc, A, c, rfl, ho⟩⟩ := h
  · exact ⟨_, _, _, _, _, _, rfl, hb, .inl ⟨by rw [hc]; simp, by cases b <;> decide⟩⟩
  · exact ⟨_, _, _, _, _, _, rfl, hb, .inr ⟨hc, rfl, rfl, rfl, ho⟩⟩
theorem hxsecl {xs : List Nat} (h : (bvs xs).length = 64 * 1) : xs.length = 64 := by rw [bvs_length] at h; omega
set_option maxRecDepth 100000 in
set_option maxHeartbeats 2000000 in
theorem find_in {w : World} {gd sb from_ many : Nat} {F G : Nat → Prop} {st : St} (E : Errs) (hE : ∀ W, But (fun x => F x ∨ G x) w W → Laid W E) (h : Held_ w gd sb from_ many ⟨st, [], false⟩ F G) :
    CallsIn Fence.wide 3 Tryd.prog 25 #[.pointer (some ⟨sb, 0, none⟩)] w fun e w' => e = .returned (.tuple #[]) ∧ Went w gd sb from_ many F G ⟨st, found (regionL st.read from_ many), false⟩ w' := by
  obtain ⟨F0, hd0, hc0, hf0⟩ := h.d.tight
  obtain ⟨⟨v, vals, hh⟩, hG⟩ := h.s
  have hfit := h.fits
  have hle := h.d.1.le
  obtain ⟨T, hT⟩ : ∃ T, regionL st.read from_ many = T := ⟨_, rfl⟩
  have hTl : T.length = many := by rw [← hT]; exact regionL_length (by rw [st.read_length]; exact hfit)
  have hTg : ∀ k xs, T[k]? = some xs → st.read[from_ + k]? = some xs := fun k xs hx => by
    have hk := (List.getElem?_eq_some_iff.1 hx).1
    rw [← hT, regionL_get (by omega)] at hx
    exact hx
  have hTs : ∀ x ∈ T, Sec x := fun x hx => by
    obtain ⟨k, hk⟩ := List.mem_iff_getElem?.1 hx
    exact h.d.1.read x (List.mem_of_getElem? (hTg k x hk))
  rw [hT]
  have c0 := hh.c0
  have c1 := hh.c1
  have c2 := hh.c2
  have H := Lib.hid (And.intro h (And.intro hd0 (And.intro hc0 (And.intro hf0 (And.intro hh (And.intro hG hE))))))
  have HT := Lib.hid (And.intro hTl (And.intro hTg (And.intro hTs (And.intro hfit hle))))
  have hm : from_ + many ≤ 4096 := Nat.le_trans hfit hle
  have hsbl := hh.lt
  clear h hd0 hc0 hf0 hh hG hE hfit hle hTl hTg hTs hT
  refine callsIn_of_wp_marks Tryd.func25 rfl trivial ?_ rfl
  simp only [Tryd.ntmps25, List.size_toArray, List.length_cons, List.length_nil, Nat.reduceAdd, Nat.reduceSub, Array.replicate_succ, Array.replicate_zero, List.push_toArray, List.append_toArray, List.nil_append, List.cons_append]
  have f0 : ∀ o, (w.alloc o).cell? ⟨sb, 0, none⟩ = some (.pointer (some ⟨gd, 0, none⟩)) := fun o => ((below_alloc w o).cell hsbl).trans c0
  have f1 : ∀ o, (w.alloc o).cell? ⟨sb, 1, none⟩ = some (.int .i64 (from_ : Int)) := fun o => ((below_alloc w o).cell hsbl).trans c1
  have f2 : ∀ o, (w.alloc o).cell? ⟨sb, 2, none⟩ = some (.int .i64 (many : Int)) := fun o => ((below_alloc w o).cell hsbl).trans c2
  gi_wp2
  obtain ⟨b, hb⟩ : ∃ b, w.heap.size = b := ⟨_, rfl⟩
  have hb0 := below_alloc w (.cells #[.slice none 0 0] 35)
  have hbx := Boxed.new w 35 (.slice none 0 0)
  have z0 : (w.alloc (.cells #[.slice none 0 0] 35)).heap.size = b + 1 := by rw [World.size_alloc, hb]
  obtain ⟨W0, hW0⟩ : ∃ W0, w.alloc (.cells #[.slice none 0 0] 35) = W0 := ⟨_, rfl⟩
  rw [hW0] at hb0 hbx z0 ⊢
  rw [hb] at hbx ⊢
  have k0 : Coll w b gd F0 st [] W0 := ⟨⟨_, hbx, rfl, .inl ⟨rfl, rfl⟩⟩, ⟨H.out.2.1.below hb0, fun x hx => by
    obtain ⟨c, t, f, e⟩ := H.out.2.2.1 x hx
    exact ⟨c, t, f, (hb0.block x (H.out.2.1.2.2 x hx)).trans e⟩⟩, hb0⟩
  clear hW0 f0 f1 f2 c0 c1 c2 hbx hb0
  have oG : OwnFrom W0.heap.size (fun (_ : Unit) W => Disk W gd F0 st ∧ CellsIn F0 W) := fun _ _ _ _ h hg hr => h.1.step h.2 hg (fun r e => (hr r e).2)
  refine wpIn_range_R rfl (by decide) (gf := 41) (bd := #[regionV gd from_ many]) (lb := #[]) rfl trivial (enters_of Tryd.func41 (by kernel_rfl) rfl)
    (encs := secV) (Ty := fun t => t = 57)
    (fun W1 hb1 => sectors_seq T HT.out.1 hm (fun t => t = 57) rfl (fun _ W => Disk W gd F0 st ∧ CellsIn F0 W) W1 (fun k W xs hx h => ⟨F0, st, h.1, HT.out.2.1 k xs hx⟩) (fun k => fun _ _ _ _ h hg hr => h.1.step h.2 hg (fun r e => (hr r e).2)) (own_below oG (s := ()) k0.disk hb1)) (fun _ => rfl)
    (fun pre x _ _ _ _ h hg hr => ⟨h.1, (by obtain ⟨xs, e, hB⟩ := h.2.1; exact ⟨xs, e, row_step hB hg (fun r e => (hr r e).2)⟩), h.2.2.1.step h.2.2.2 hg (fun r e => (hr r e).2)⟩)
    (fun _ _ _ _ h hg hr => h.1.step h.2 hg (fun r e => (hr r e).2))
    (fun _ _ _ _ h hg hr => ⟨h.1, h.2.1.step h.2.2 hg (fun r e => (hr r e).2)⟩) (fun _ _ _ _ h _ _ => h)
    (fun pre W => Coll w b gd F0 st (T.take pre.length).flatten W)
    (fun _ _ => False)
    (fun _ _ _ _ h hg hr => h.step (by omega) hg hr)
    (fun _ _ _ _ h _ _ => h) k0
    (fun x => { tmps := #[.pointer (some ⟨sb, 0, none⟩), undef, .pointer (some ⟨b, 0, none⟩), undef, .slice (some ⟨x.2, 0, none⟩) 64 64, undef, undef, undef, undef, .pointer (some ⟨sb, 0, none⟩), .pointer (some ⟨sb, 0, none⟩), .pointer (some ⟨sb, 0, none⟩), regionV gd from_ many,
      .func (.func 41) #[regionV gd from_ many] #[], .int .i64 (x.1 : Int), .slice (some ⟨x.2, 0, none⟩) 64 64, undef, undef, undef, undef, undef, undef, undef, undef, undef, undef, undef, undef, undef, undef, undef, undef, undef, undef, undef, undef, undef, undef, undef, undef, undef, undef, undef, undef], defers := [] }) ?assign ?body ?done ?stop
  case assign =>
    intro l2 x Wc K hK
    unfold secV
    gi_wp2
    exact hK
  case body =>
    rintro l2 pre ⟨k, Bn⟩ Wc hco ⟨hpre, ⟨xs, hxs, hB⟩, hg2⟩
    have hpl : pre.length = k := by
      have := congrArg List.length hpre
      rw [List.length_map, List.length_range] at this
      exact this
    rw [hpl] at hco
    obtain ⟨v, hbx, hrow⟩ := hco.row
    have hkm := (List.getElem?_eq_some_iff.1 hxs).1
    rw [HT.out.1] at hkm
    have hxsec := HT.out.2.2.1 xs (List.mem_of_getElem? hxs)
    have hnl : (T.take k).flatten.length = 64 * k := by
      rw [flat_len (fun s hs => (HT.out.2.2.1 s (List.mem_of_mem_take hs)).1), List.length_take, HT.out.1, Nat.min_eq_left (by omega)]
    have hfl : (T.take (k + 1)).flatten = (T.take k).flatten ++ xs := by rw [List.take_add_one, hxs]; simp
    have e1 : (pre ++ [(k, Bn)]).length = k + 1 := by rw [List.length_append, hpl]; rfl
    obtain ⟨i0, hi, hz0, hz1, hz2⟩ := info_parts infoByte
    have hbc := hbx.cell
    obtain ⟨A, c, rfl⟩ := own_form hrow
    have HC := Lib.hid (And.intro hco (And.intro hbx (And.intro hrow (And.intro hB (And.intro hxsec (And.intro hnl (And.intro hfl (And.intro e1 hb))))))))
    have hkk : k ≤ 4096 := by omega
    obtain ⟨nn, hnn⟩ : ∃ nn, (T.take k).flatten.length = nn := ⟨_, rfl⟩
    have hnn2 : nn ≤ 300000 := by omega
    have hw0 : w.heap.size ≤ Wc.heap.size := hco.bel.size
    rw [hnn] at hrow hbc
    have hlx : (bvs xs).length = 64 * 1 := by rw [bvs_length, hxsec.1]
    have hnews : ∀ j y, (bvs xs)[j]? = some y → Wc.cell? ((⟨Bn, 0, none⟩ : Addr).add j) = some y := fun j y hy => by
      rw [bvs_get] at hy
      obtain ⟨z, hz, rfl⟩ := Option.map_eq_some_iff.1 hy
      exact hB.at_ j z hz
    have HN := Lib.hid hnn
    clear hco hbx hB hxsec hnl hfl e1 hxs hg2 hpre hpl hkm hnn
    gi_wp2_with (
      gi_at_builtin
      refine wpListIn_append_own _ rfl _ _ 35 rfl w.heap.size 5 i0 (.int .u8 0) 1 1 Tryd.underlying35 hi hz0 hz1 hz2 rfl (by decide) (.slice A nn c) nn (bvs (T.take k).flatten) rfl hrow ⟨Bn, 0, none⟩ 64 64 (bvs xs) rfl hlx hnews (bvs_oneCell xs) (by unfold maxLen; omega) (by omega) hw0 ?_
      intro v' w1 hown' hgrow _
      rw [← bvs_append] at hown'
      obtain ⟨A', c', rfl⟩ := own_form hown'
      have hnr : (Value.slice A nn c).ownBlock ≠ some b := fun e => by
        obtain ⟨cur, hc⟩ := own_type hrow e
        exact block_ne HC.out.2.1 hc tne_vr rfl
      have hbx1 : Boxed w1 b 35 (.slice A nn c) := by have h := HC.out.2.1; rw [HN.out] at h; exact h.kept hgrow (fun e => hnr e.symm)
      have hc1 := hbx1.cell
      have hf1 := hbx1.frozen)
    have hko : KeepsOthers Wc (w1.setCell ⟨b, 0, none⟩ (.slice A' (nn + 64) c')) := (KeepsOthers.of_grownBy hgrow (fun j o ej hj => by
      obtain ⟨cur, hc⟩ := own_type hrow ej
      rw [hj] at hc; cases hc; rfl)).trans (KeepsOthers.setCell _ _ _)
    have hbel : Below w.heap.size Wc (w1.setCell ⟨b, 0, none⟩ (.slice A' (nn + 64) c')) := ((Below.refl _ Wc).grown hgrow hw0 (fun j ej => (hrow.lt j ej).1)).setCell (p := ⟨b, 0, none⟩) (by rw [HC.out.2.2.2.2.2.2.2.2]; exact Nat.le_refl _) _
    have hnr1 : (Value.slice A' (nn + 64) c').ownBlock ≠ some b := fun e => by
      obtain ⟨cur, hc⟩ := own_type hown' e
      exact block_ne hbx1 hc tne_vr rfl
    have hdk : Disk (w1.setCell ⟨b, 0, none⟩ (.slice A' (nn + 64) c')) gd F0 st ∧ CellsIn F0 (w1.setCell ⟨b, 0, none⟩ (.slice A' (nn + 64) c')) := by
      have hbb : But (fun x => w.heap.size ≤ x) Wc (w1.setCell ⟨b, 0, none⟩ (.slice A' (nn + 64) c')) := ⟨hbel.os, hbel.tape, hbel.output, hbel.size, fun x hx hn => hbel.block x (by omega)⟩
      have hd := HC.out.1.disk
      refine ⟨hd.1.but hbb (fun x hx e => by have := H.out.2.1.2.2 x hx; omega), fun x hx => ?_⟩
      obtain ⟨c, t, f, e⟩ := hd.2 x hx
      exact ⟨c, t, f, (hbel.block x (H.out.2.1.2.2 x hx)).trans e⟩
    refine ⟨hko.from _, fun bb c t f ht hbk => ?_, hdk, ?_⟩
    · subst ht
      have n1 : bb ≠ b := fun e => by subst e; exact block_ne hbk HC.out.2.1 (by decide) rfl
      rw [Below.heap_setCell _ _ _ _ n1]
      refine (hgrow.block bb (Array.getElem?_eq_some_iff.1 hbk).1 (fun e => ?_)).trans hbk
      obtain ⟨cur, hc⟩ := own_type hrow e.symm
      exact block_ne hbk hc (by decide) rfl
    · show Coll w b gd F0 st (T.take (pre ++ [(k, Bn)]).length).flatten _
      rw [HC.out.2.2.2.2.2.2.2.1, HC.out.2.2.2.2.2.2.1]
      refine ⟨⟨_, hbx1.set _, ?_⟩, hdk, HC.out.1.bel.trans hbel⟩
      have hown2 := hown'
      rw [show nn + 64 = ((T.take k).flatten ++ xs).length from by rw [List.length_append, HN.out, hxsecl hlx]] at hown2 ⊢
      exact own_block hown2 (fun x hx => Below.heap_setCell _ _ _ _ (fun e => hnr1 (by have e2 : x = b := e; rw [← e2]; exact (show (Value.slice A' (nn + 64) c').ownBlock = some x from by cases A' with | none => cases hx | some a => exact hx))))
  case done =>
    rintro D ys W2 hD ⟨hys, _⟩ hco hK
    have hyl : ys.length = many := by
      have := congrArg List.length hys
      rw [List.length_map, List.length_range] at this
      exact this
    rw [hyl, ← HT.out.1, List.take_length] at hco
    obtain ⟨v, hbx, hrow⟩ := hco.row
    obtain ⟨A, c, rfl⟩ := own_form hrow
    have hfl : T.flatten.length = 64 * many := by rw [flat_len (fun s hs => (HT.out.2.2.1 s hs).1), HT.out.1]
    have hin := In.of_own hrow
    have hcap : T.flatten.length ≤ c := own_cap hrow
    have hnil := own_nil hrow
    have hTb := flat_lt (fun s hs => (HT.out.2.2.1 s hs).2)
    have hGw := H.out.2.2.2.2.2.1
    have hbW : b < W2.heap.size := hbx.lt
    have hGb : ¬ G b := fun e => by have := hGw b e; omega
    have hDW := (Array.getElem?_eq_some_iff.1 hK).1
    have hGD : ¬ G D := fun e => by have := hGw D e; omega
    have hAG : ∀ ad, A = some ad → ¬ G ad.block := fun ad e hg => by
      subst e
      rcases hrow.2 with ⟨e, _⟩ | ⟨g1, cap, cur, e, hg1, _⟩
      · cases e
      · cases e; have := hGw _ hg; simp at this; omega
    have k1 : Finding W2 sb gd from_ many G T [] many G W2 := ⟨H.out.1.s.below hco.bel, fun x hx => .inl hx, But.refl _ _, by
      show parse many 0 (T.flatten.drop (64 * 0)) = parse T.length 0 T.flatten
      rw [Nat.mul_zero, List.drop_zero, HT.out.1], by
      rw [List.length_drop, hfl]; omega⟩
    have hmix : Tryd.prog.follows .mixedOrders = true := by kernel_rfl
    have hmany : many ≤ 4096 := by omega
    obtain ⟨n, hn⟩ : ∃ n, T.flatten.length = n := ⟨_, rfl⟩
    rw [hn] at hbx hin hcap hfl
    have HK := Lib.hid (And.intro hK (And.intro hD (And.intro hDW (And.intro hGD (And.intro hco (And.intro hTb hn))))))
    have HB := Lib.hid (And.intro hbx (And.intro hbW (And.intro hGb (And.intro hin (And.intro hAG (And.intro hnil (And.intro hcap hfl)))))))
    clear hK hD hDW hGD hbx hbW hGb hin hAG hcap hfl hco hnil hTb hrow hGw hys hyl hn oG k0
    gi_wp2
    refine wpIn_wide.2 ?_
    go_loopw [5] (fun (z : Value) wr => ∃ (l : List (List Nat)) (f : Nat) (G' : Nat → Prop), Finding W2 sb gd from_ many G T l f G' wr) (fun _ wr => many - usedIn sb wr)
    case atStart => exact ⟨[], many, G, k1⟩
    case round =>
      obtain ⟨l, f, G', hfi⟩ := hrel
      obtain ⟨⟨v2, vals2, hh2⟩, hG2⟩ := hfi.sto
      have c4 := hh2.c4
      have hul := hh2.fits
      obtain ⟨us, hus⟩ : ∃ us, usedL l = us := ⟨_, rfl⟩
      rw [hus] at c4 hul
      obtain ⟨p, hp⟩ : ∃ p, 64 * us = p := ⟨_, rfl⟩
      have hmul : (64 : Int) * (us : Int) = (p : Int) := by omega
      have hwr : IntKind.i64.wrap (p : Int) = (p : Int) := by rw [IntKind.wrap_i64]; omega
      have hpn : p ≤ n := by have := HB.out.2.2.2.2.2.2.2; omega
      obtain ⟨B1, hcut, hB1⟩ := cut_name (A := A) (n := n) (c := c) (k := p) hpn
      have hboxr : Boxed wr b 35 (.slice A n c) := (hfi.but.block b HB.out.2.1 HB.out.2.2.1).trans HB.out.1
      have cb := hboxr.cell
      have hinr : In wr A n T.flatten := in_but HB.out.2.2.2.1 hfi.but HB.out.2.2.2.2.1
      have hin1 := hinr.cut (k := p) (c := c) hpn HB.out.2.2.2.2.2.2.1
      rw [← hB1] at hin1
      have hb1n : B1 = none → n - p = 0 := fun e => by
        rw [hB1] at e
        have hA0 : A = none := by split at e; exact e; cases A; rfl; cases e
        have := HB.out.2.2.2.2.2.1 hA0; have := HB.out.2.2.2.2.2.2.1; omega
      obtain ⟨n1, hn1⟩ : ∃ n1, n - p = n1 := ⟨_, rfl⟩
      obtain ⟨c1, hc1⟩ : ∃ c1, c - p = c1 := ⟨_, rfl⟩
      have hnc1 : n1 ≤ c1 := by have := HB.out.2.2.2.2.2.2.1; omega
      have hn1b : n1 ≤ 1000000000000 := by have := HB.out.2.2.2.2.2.2.2; omega
      rw [hn1, hc1] at hcut
      rw [hn1] at hin1 hb1n
      obtain ⟨xs, hxs⟩ : ∃ xs, T.flatten.drop p = xs := ⟨_, rfl⟩
      rw [hxs] at hin1
      have hlay : Laid wr E := H.out.2.2.2.2.2.2 wr (((But.of_below HK.out.2.2.2.2.1.bel : But (fun x => F x ∨ G x) w W2)).trans (hfi.but.mono (fun x _ e => .inr e)))
      have hxb : ∀ x ∈ xs, x < 256 := fun x hx => HK.out.2.2.2.2.2.1 x (List.mem_of_mem_drop (hxs ▸ hx))
      have CG := Lib.hid (fun (W : World) (hb : Below wr.heap.size wr W) => (get_frame E B1 n1 c1 xs W (hlay.below hb) (hin1.below hb) hxb hb1n hnc1 hn1b).mono fun _ _ h => got_of h)
      have HF := Lib.hid (And.intro hfi (And.intro hh2 (And.intro hG2 (And.intro hus (And.intro hp (And.intro hxs hxb))))))
      clear hfi hh2 hG2 hus hp hB1 hboxr hinr hin1 hb1n hn1 hc1 hnc1 hn1b hxs hlay hxb hpn
      go_wp2
      refine wp_calm ?_
      go_region_law (first
        | (go_simp; go_at_call 42; refine (CG.out _ (Below.refl _ wr).drew).mono ?_; rintro e w5 ⟨z1, A5, n5, c5, z2, z3, rfl, hb5, hpo⟩))
      all_goals
        have hfi := HF.out.1
        have hus := HF.out.2.2.2.1
        have hxs := HF.out.2.2.2.2.2.1
        have hp := HF.out.2.2.2.2.1
        have hpar := hfi.parse
        have hfuel := hfi.fuel
        rw [hus, hp, hxs] at hpar hfuel
        have hbw : Below wr.heap.size wr w5 := (Below.refl _ wr).drew.trans hb5
        have hK5 : w5.heap[D]? = some (.deferred (some [])) := (hbw.block D (Nat.lt_of_lt_of_le HK.out.2.2.1 hfi.but.size)).trans ((hfi.but.block D HK.out.2.2.1 HK.out.2.2.2.1).trans HK.out.1)
        have hfin : ∀ (W' : World) (o : Obj), Below wr.heap.size wr W' → found T = l → Went w gd sb from_ many F G ⟨st, found T, false⟩ (W'.putObj D o) := fun W' o hb' hf => by
          rw [hf]
          have bt : But (fun x => x = D) W' (W'.putObj D o) := ⟨rfl, rfl, rfl, by simp, fun b hb hn => World.putObj_heap_other hn⟩
          have hDw : w.heap.size ≤ D := by have := HK.out.2.1; omega
          have b1 : But G w W' := ((But.of_below HK.out.2.2.2.2.1.bel : But G w W2).trans hfi.but).trans (But.of_below hb')
          have hnD : ∀ x, G' x → x ≠ D := fun x hx e => by
            subst e
            rcases hfi.g x hx with k | k
            · exact HK.out.2.2.2.1 k
            · have := HK.out.2.2.1; omega
          refine ⟨F, G', ⟨(H.out.1.d.but b1 (fun x hx hg => H.out.1.ap x hx hg)).but bt (fun x hx e => by have := H.out.1.d.2.2 x hx; omega), (hfi.sto.below hb').but bt hnD, fun x hx hg => ?_, H.out.1.fits⟩, (b1.mono (fun x _ e => .inr e) : But (fun x => F x ∨ G x) w W').next bt (fun x hx e => by omega), fun x hx => .inl hx, fun x hx => ?_⟩
          · rcases hfi.g x hg with k | k
            · exact H.out.1.ap x hx k
            · have := H.out.1.d.2.2 x hx; have := HK.out.2.2.2.2.1.bel.size; omega
          · rcases hfi.g x hx with k | k
            · exact .inl k
            · exact .inr (Nat.le_trans HK.out.2.2.2.2.1.bel.size k)
        have hDw : w.heap.size ≤ D := by have := HK.out.2.1; omega
        have HP := Lib.hid (And.intro hpar (And.intro hfuel (And.intro hbw (And.intro hK5 (And.intro hfin hDw)))))
        have HO := Lib.hid hpo
        have hh5 := HF.out.2.1.blocks (fun x hx => hbw.block x (HF.out.2.2.1 x hx))
        have CN := next_sto hh5 (by have := len_le_used l; have := hh5.fits; omega)
        obtain ⟨q, hq⟩ : ∃ q, l.length + 1 = q := ⟨_, rfl⟩
        rw [hq] at CN
        have HCN := Lib.hid (And.intro CN (And.intro hh5 hq))
        clear hfi hus hxs hp hpar hfuel hbw hK5 hfin hpo CN hh5 hb5 hq
        by_cases hz : z3 = 0
        · subst hz
          obtain ⟨hcut5, hz1, hz2, hown5⟩ : cutL xs = none ∧ z1 = (numOf xs : Int) ∧ z2 = ((secs (cntOf xs) : Nat) : Int) ∧ w5.ownsRow wr.drew.heap.size 5 1 (.slice A5 n5 c5) (cntOf xs) (bvs (recOf xs)) := by
            rcases HO.out with ⟨_, hzz⟩ | ⟨h1, _, h2, h3, h4⟩
            · exact absurd rfl hzz
            · exact ⟨h1, h2, h3, h4⟩
          subst hz1 hz2
          obtain ⟨nm, hnm⟩ : ∃ nm, numOf xs = nm := ⟨_, rfl⟩
          rw [hnm]
          by_cases hnum : nm = q
          · have hne : ((nm : Int) != (q : Int)) = false := by simp; omega
            have hnx : Next_ l.length xs := ⟨hcut5, by rw [hnm, hnum]; exact HCN.out.2.2.symm⟩
            have hsl := next_len hnx
            have hcn := next_cnt hnx
            have hrl := recOf_length hsl
            obtain ⟨f', rfl⟩ : ∃ f', f = f' + 1 := ⟨f - 1, by have := HP.out.2.1; have := secs_pos (cntOf xs); omega⟩
            have hxl : xs.length = n - p := by rw [← HF.out.2.2.2.2.2.1, List.length_drop, HK.out.2.2.2.2.2.2]
            have hkf : usedL l + secs (recOf xs).length ≤ many := by
              have h1 := HB.out.2.2.2.2.2.2.2; have h2 := HF.out.2.2.2.2.1; have h3 := HF.out.2.2.2.1
              rw [hrl]; omega
            have hsto5 : Sto w5 sb gd from_ many G' l false := HF.out.1.sto.below HP.out.2.2.1
            have CK := keep_sto (u := .slice A5 n5 c5) (b := recOf xs) hsto5 (by rw [hrl]; exact own_zero' hown5) ⟨by omega, recOf_lt HF.out.2.2.2.2.2.2⟩ hkf (by omega)
            rw [hrl] at CK
            obtain ⟨sc, hsc⟩ : ∃ sc, secs (cntOf xs) = sc := ⟨_, rfl⟩
            rw [hsc] at CK ⊢
            have hpn2 := HP.out.1
            rw [parse_next hnx] at hpn2
            have hfl2 := HP.out.2.1
            have hown6 := hown5
            have hsp := secs_pos (cntOf xs)
            have HG := Lib.hid (And.intro hpn2 (And.intro hfl2 (And.intro hsl (And.intro hrl (And.intro hsc (And.intro hkf (And.intro hsp hown6)))))))
            have HCK := Lib.hid CK
            clear hcut5 hnm hnum hnx hsl hcn hrl hkf hsto5 CK hsc hpn2 hfl2 hown5 hown6 hxl hsp
            go_wp2_with fail
            refine HCN.out.1.mono ?_
            rintro e w6 ⟨rfl, rfl⟩
            go_wp2_with fail
            refine HCK.out.mono ?_
            rintro e w7 ⟨rfl, hb7, G2, hs2, hg2⟩
            go_wp2
            have hfin7 : Finding W2 sb gd from_ many G T (l ++ [recOf xs]) f' G2 w7 := by
              have hfi := HF.out.1
              have hsz : W2.heap.size ≤ wr.heap.size := hfi.but.size
              refine ⟨hs2, fun x hx => ?_, (hfi.but.trans (But.of_below HP.out.2.2.1)).next hb7 (fun x hx e => (hfi.g x e).elim id (fun k => by omega)), ?_, ?_⟩
              · rcases hg2 x hx with k | k | k
                · exact hfi.g x k
                · exact .inr (Nat.le_trans hsz (HG.out.2.2.2.2.2.2.2.lt x k).1)
                · exact .inr (Nat.le_trans hsz (Nat.le_trans HP.out.2.2.1.size k))
              · rw [← HG.out.1, usedL_snoc, HG.out.2.2.2.1, List.length_append, List.append_assoc, HF.out.2.2.2.1, Nat.mul_add, HF.out.2.2.2.2.1, ← List.drop_drop, HF.out.2.2.2.2.2.1]
                rfl
              · rw [usedL_snoc, HG.out.2.2.2.1, HF.out.2.2.2.1, Nat.mul_add, HF.out.2.2.2.2.1, ← List.drop_drop, HF.out.2.2.2.2.2.1, List.length_drop]
                have h1 := HG.out.2.1; have h2 := HG.out.2.2.1; have h3 := HG.out.2.2.2.2.2.2.1
                omega
            go_roundw
            case rel => exact ⟨_, _, _, hfin7⟩
            case measure =>
              rw [hfin7.used, HF.out.1.used, usedL_snoc]
              have h1 := HG.out.2.2.2.2.2.1
              have h2 := secs_pos (recOf xs).length
              omega
          · have hne : ((nm : Int) != (q : Int)) = true := by simp; omega
            have hnx : ¬ Next_ l.length xs := fun h => hnum (by rw [← hnm, h.2]; exact HCN.out.2.2)
            have hfo : found T = l := by have h := HP.out.1; rw [parse_stop hnx, List.append_nil] at h; exact h.symm
            have HFO := Lib.hid hfo
            clear hcut5 hnm hnum hnx hown5 hfo
            go_wp2_with fail
            refine HCN.out.1.mono ?_
            rintro e w6 ⟨rfl, rfl⟩
            go_wp2
            refine ⟨by simp, .inl ⟨_, _, rfl, run_takeDeferred HP.out.2.2.2.1, ?_⟩⟩
            exact ⟨_, results_none rfl _ _ _, rfl, HP.out.2.2.2.2.1 _ _ HP.out.2.2.1 HFO.out⟩
        · have hz3 : (z3 != 0) = true := by simpa using hz
          have hnx : ¬ Next_ l.length xs := fun h => by
            rcases HO.out with ⟨h1, _⟩ | ⟨_, h1, _⟩
            · exact h1 h.1
            · exact hz h1
          have hfo : found T = l := by have h := HP.out.1; rw [parse_stop hnx, List.append_nil] at h; exact h.symm
          have HFO := Lib.hid hfo
          clear hnx hfo hz
          go_wp2
          refine ⟨by simp, .inl ⟨_, _, rfl, run_takeDeferred HP.out.2.2.2.1, ?_⟩⟩
          exact ⟨_, results_none rfl _ _ _, rfl, HP.out.2.2.2.2.1 _ _ HP.out.2.2.1 HFO.out⟩
  case stop =>
    rintro D pre Wc hD _ h hK
    exact h.elim

end Go.Proofs.YtjkohceigdfmjaaDoor

/-
  A region that draws its order, in a round: by the laws of an open fence without rounds.
-/
namespace Go.Proofs.YtjkohceigdfmjaaDoor
open Go.RowKit

theorem ops_in {P : Program} {ops : Array Oper} {K : Act → World → Prop} {l n : Nat} (hd : ∀ (i : Nat) (o : Oper), ops[i]? = some o → ∀ c, o.op ≠ .defer c) (L : List Nat) :
    ∀ (a : Act) (w : World), wpOps P ops (Exit.then K (fun _ _ _ => False)) L a w → wpOpsIn (Fence.wide.inRound l) n P ops (Exit.then K (fun _ _ _ => False)) L a w := by
  induction L with
  | nil => exact fun _ _ h => h
  | cons i rest ih =>
    intro a w h
    cases ho : ops[i]? with
    | none =>
      simp only [wpOps, ho] at h
      simp only [wpOpsIn, ho]
      exact ih a w h
    | some o =>
      simp only [wpOps, ho] at h
      simp only [wpOpsIn, ho]
      by_cases hw : Region.wanted o (yielded ops a.tmps) = true
      · rw [if_pos hw] at h ⊢
        have h1 : o.wp P a w (wpOps P ops (Exit.then K (fun _ _ _ => False)) rest) (Exit.then K (fun _ _ _ => False)) := by
          rcases h with h | ⟨_, a2, w2, h⟩
          · exact h
          · exact h.elim
        refine ⟨fun _ _ => trivial, ?_⟩
        have e : o.semAt (Fence.wide.inRound l).round a.eval = execOp a.eval o := Oper.semAt_some l _ _ (hd i o ho)
        rw [e]
        unfold Oper.wp at h1
        cases hr : (execOp a.eval o).run P w with
        | ok v w' =>
          rw [hr] at h1
          cases v with
          | value v => exact ih _ _ h1
          | skip => exact ih _ _ h1
          | defer d => exact ih _ _ h1
          | enter f args =>
            refine ⟨fun h => (by cases h), ?_⟩
            have h2 : Calls P f args w' fun e w'' => match e, w'' with
              | .returned v, w'' => wpOps P ops (Exit.then K (fun _ _ _ => False)) rest (a.put o.dst v) w''
              | .panicked chain, w'' => (Exit.then K (fun _ _ _ => False)) (.panic chain) a w''
              | .outgrown, _ => LetsOut (Exit.then K (fun _ _ _ => False)) := h1
            refine CallsIn.inRound l (callsIn_wide.2 (h2.mono ?_))
            intro e w'' h3
            cases e with
            | returned v => exact ih _ _ h3
            | panicked chain => exact h3
            | outgrown => exact h3
          | row r args =>
            refine ⟨fun h => (by cases h), ?_⟩
            intro c cs _
            obtain ⟨v, w'', hR, hs⟩ := h1 c cs
            exact ⟨v, w'', ih _ _ hR, stepsIn_wide.2 hs⟩
          | round l f tmps assign body => exact h1.elim
          | _ => exact h1.elim
        | halt x w' =>
          rw [hr] at h1
          cases x <;> first | exact h1 | exact h1.elim
      · rw [if_neg hw] at h ⊢
        exact ⟨fun _ _ => trivial, ih _ _ h⟩

/-- The region, what is known of the world being held. -/
theorem region_in {P : Program} {ops : Array Oper} {K : Act → World → Prop} {Q : Exit → Act → World → Prop} {l n id : Nat} {a : Act} {w : World} {S : World → Prop} (hm : P.follows .mixedOrders = true) (hd : ∀ (i : Nat) (o : Oper), ops[i]? = some o → ∀ c, o.op ≠ .defer c)
    (h : wpAnyH P .any ops (Exit.then K (fun _ _ _ => False)) S ops.size (Array.replicate ops.size false) a w.drew) :
    (Code.region id ops true).wpIn (Fence.wide.inRound l) n P (Exit.then K Q) a w := by
  refine wpIn_mono (Q := Exit.then K (fun _ _ _ => False)) (wpIn_region_draw fun t => ops_in hd _ _ _ ?_) (fun e a w h => by cases e <;> first | exact h | exact h.elim)
  simp only [Region.schedule, hm, Bool.true_or, if_true]
  exact wpAny_sound ops.size t _ a _ (wpAny_of_held _ _ _ _ h)

end Go.Proofs.YtjkohceigdfmjaaDoor

/-
  clean: noughts where there are none, and then all is made sure.
-/
namespace Go.Proofs.YtjkohceigdfmjaaDoor
open Go.RowKit Go.Shelf

attribute [local go_sem] Oper.semAt_some

theorem wpIn_calm {P : Program} {F : Fence} {n : Nat} {c : Code} {K : Act → World → Prop} {Q : Exit → Act → World → Prop} {a : Act} {w : World} (h : c.wpIn F n P (Exit.then K (fun _ _ _ => False)) a w) : c.wpIn F n P (Exit.then K Q) a w :=
  wpIn_mono h (fun e a w h => by cases e <;> first | exact h | exact h.elim)

def plainOp (o : Oper) : Bool := match o.op with | .defer _ => false | _ => true
theorem nodefer (ops : Array Oper) (h : ops.all plainOp = true) : ∀ (i : Nat) (o : Oper), ops[i]? = some o → ∀ c, o.op ≠ .defer c := fun i o ho c e => by
  obtain ⟨hi, hv⟩ := Array.getElem?_eq_some_iff.1 ho
  have h1 := Array.all_eq_true.1 h i hi
  rw [hv] at h1
  unfold plainOp at h1
  rw [e] at h1
  cases h1
def TypIn (F : Nat → Prop) (w : World) : Prop := ∀ x, F x → ∃ c t f, w.heap[x]? = some (.cells c t f) ∧ ¬ Mine_ t
theorem TypIn.cells {F : Nat → Prop} {w : World} (h : TypIn F w) : CellsIn F w := fun x hx => by
  obtain ⟨c, t, f, e, _⟩ := h x hx
  exact ⟨c, t, f, e⟩
theorem Disk.tightT {w : World} {g : Nat} {F : Nat → Prop} {s : St} (h : Disk w g F s) : ∃ F0, Disk w g F0 s ∧ TypIn F0 w ∧ ∀ x, F0 x → F x := by
  obtain ⟨ok, ⟨a, b, ca, cb, v, h, hf⟩, _⟩ := h
  refine ⟨Foot g a b v, ⟨ok, ⟨a, b, ca, cb, v, h, fun x hx => hx⟩, fun x hx => h.foot hx⟩, fun x hx => ?_, hf⟩
  rcases hx with rfl | rfl | rfl | hx
  · exact ⟨_, _, _, h.head, by unfold Mine_; decide⟩
  · obtain ⟨cur, hc⟩ := h.sure.type; exact ⟨_, _, _, hc, by unfold Mine_; decide⟩
  · obtain ⟨cur, hc⟩ := h.rd.type; exact ⟨_, _, _, hc, by unfold Mine_; decide⟩
  · obtain ⟨cur, hc⟩ := own_type h.row hx; exact ⟨_, _, _, hc, by unfold Mine_; decide⟩
theorem TypIn.step {F : Nat → Prop} {w w' : World} {row : Option Nat} (h : TypIn F w) (hg : w.grownBy w' row) (hr : ∀ r, row = some r → ∃ o : Obj, w.heap[r]? = some o ∧ o.isCells = false) : TypIn F w' := fun x hx => by
  obtain ⟨c, t, f, e, hn⟩ := h x hx
  exact ⟨c, t, f, row_step e hg hr, hn⟩
theorem keepT_but {F : Nat → Prop} {w w' : World} (h : TypIn F w) (hb : But F w w') : KeepT Mine_ w w' := fun b c t f ht hbk => by
  refine (hb.block b (Array.getElem?_eq_some_iff.1 hbk).1 (fun hf => ?_)).trans hbk
  obtain ⟨c2, t2, f2, e, hn⟩ := h b hf
  rw [hbk] at e
  cases e
  exact hn ht

/-- Between two sectors that are wiped. -/
structure Cln (w : World) (gd b sb : Nat) (F : Nat → Prop) (res : Int) (st : St) (W : World) : Prop where
  disk : ∃ F', Disk W gd F' st ∧ TypIn F' W ∧ ∀ x, F' x → F x ∨ b + 2 ≤ x
  but : But F w W
  size : b + 2 ≤ W.heap.size
  box : Boxed W b 31 (.pointer (some ⟨sb, 0, none⟩))
  res : Boxed W (b + 1) 28 (.int .i64 res)
section
variable {w W W' : World} {gd b sb : Nat} {F : Nat → Prop} {res : Int} {st : St}
theorem Cln.step {row : Option Nat} (hw : w.heap.size = b) (h : Cln w gd b sb F res st W) (hg : W.grownBy W' row) (hr : ∀ r, row = some r → b + 2 ≤ r ∧ ∃ o : Obj, W.heap[r]? = some o ∧ o.isCells = false) : Cln w gd b sb F res st W' := by
  obtain ⟨F', hd, hc, hf⟩ := h.disk
  have hr2 := fun r e => (hr r e).2
  exact ⟨⟨F', (hd.step hc.cells hg hr2).1, hc.step hg hr2, hf⟩, h.but.step hg (fun r e => by have := (hr r e).1; omega), Nat.le_trans h.size hg.size, Boxed.step h.box hg hr2, Boxed.step h.res hg hr2⟩
theorem Cln.setRes (hw : w.heap.size = b) (hF : ∀ x, F x → x < w.heap.size) (h : Cln w gd b sb F res st W) (t : Int) : Cln w gd b sb F t st (W.setCell ⟨b + 1, 0, none⟩ (.int .i64 t)) := by
  have hb : ∀ x, x ≠ b + 1 → (W.setCell ⟨b + 1, 0, none⟩ (.int .i64 t)).heap[x]? = W.heap[x]? := fun x hx => Below.heap_setCell _ _ _ _ hx
  have hs : (W.setCell ⟨b + 1, 0, none⟩ (.int .i64 t)).heap.size = W.heap.size := by simp [World.setCell]
  obtain ⟨F', hd, hc, hf⟩ := h.disk
  have hne : ∀ x, F' x → x ≠ b + 1 := fun x hx => by rcases hf x hx with e | e; have := hF x e; omega; omega
  have bt : But (fun x => x = b + 1) W (W.setCell ⟨b + 1, 0, none⟩ (.int .i64 t)) := (But.refl _ W).set 0 _ (fun _ => rfl)
  refine ⟨⟨F', hd.but bt hne, fun x hx => ?_, hf⟩, h.but.set 0 _ (fun e => by omega), by rw [hs]; exact h.size, (hb b (by omega)).trans h.box, h.res.set _⟩
  obtain ⟨c, t', f, e, hn⟩ := hc x hx
  exact ⟨c, t', f, (hb x (hne x hx)).trans e, hn⟩
theorem Cln.acted (hw : w.heap.size = b) (h : Cln w gd b sb F res st W) : Acted w gd F st W := by
  obtain ⟨F', hd, _, hf⟩ := h.disk
  exact ⟨F', hd, h.but, fun x hx => (hf x hx).imp id (fun e => by omega)⟩
theorem Cln.act {f : FuncId} {args : Array Value} {Q : Ending → Prop} {st' : St} (hw : w.heap.size = b) (hF : ∀ x, F x → x < w.heap.size) (h : Cln w gd b sb F res st W)
    (hc : ∀ F', Disk W gd F' st → (∀ x, F' x → F x ∨ b + 2 ≤ x) → Calls Tryd.prog f args W fun e W' => Q e ∧ Acted W gd F' st' W') :
    Calls Tryd.prog f args W fun e W' => Q e ∧ Cln w gd b sb F res st' W' ∧ KeepsOthers W W' ∧ KeepT Mine_ W W' := by
  obtain ⟨F', hd, hci, hf⟩ := h.disk
  refine (hc F' hd hf).mono ?_
  rintro e W' ⟨hq, F2, hd2, hb, hf2⟩
  obtain ⟨F3, hd3, hc3, hf3⟩ := hd2.tightT
  have hne : ∀ x, b ≤ x → x < b + 2 → W'.heap[x]? = W.heap[x]? := fun x h1 h2 => hb.block x (by have := h.size; omega) (fun e => by rcases hf x e with k | k; have := hF x k; omega; omega)
  refine ⟨hq, ⟨⟨F3, hd3, hc3, fun x hx => ?_⟩, h.but.next hb ?_, Nat.le_trans h.size hb.size, (hne b (by omega) (by omega)).trans h.box, (hne _ (by omega) (by omega)).trans h.res⟩, keeps_of_but hci.cells hb, keepT_but hci hb⟩
  · rcases hf2 x (hf3 x hx) with k | k
    · exact hf x k
    · right; have := h.size; omega
  · intro x hx hfx
    rcases hf x hfx with k | k
    · exact k
    · omega
theorem Cln.drew (h : Cln w gd b sb F res st W) : Cln w gd b sb F res st W.drew := by
  obtain ⟨F', hd, hc, hf⟩ := h.disk
  exact ⟨⟨F', hd.below (Below.refl _ W).drew, hc, hf⟩, h.but.drew, h.size, h.box, h.res⟩
end

theorem wn_read (s : St) (k n : Nat) (xs : List Nat) (h : k ≠ n) : (s.wn k xs).read[n]? = s.read[n]? := by
  unfold St.wn
  split
  · rw [s.burnt_read]
  · rw [s.wrote_read, List.getElem?_set_ne h]
theorem wipe_read (from_ : Nat) (L : List Nat) (s : St) (k : Nat) (h : ∀ n ∈ L, n ≠ k) : (runs (wipeSteps from_ L) s).2.read[from_ + k]? = s.read[from_ + k]? := by
  induction L generalizing s with
  | nil => rfl
  | cons n L ih =>
    have h1 : (stepW (from_ + n) [] s).2.read[from_ + k]? = s.read[from_ + k]? := wn_read s (from_ + n) (from_ + k) [] (by have := h n (by simp); omega)
    show (runs (stepW (from_ + n) [] :: wipeSteps from_ L) s).2.read[from_ + k]? = _
    rw [runs]
    split
    · rw [ih _ (fun m hm => h m (by simp [hm])), h1]
    · exact h1
theorem wipe_facts (from_ : Nat) (L : List Nat) (s : St) : (runs (wipeSteps from_ L) s).2.sure = s.sure ∧ (runs (wipeSteps from_ L) s).2.waits.length ≤ s.waits.length + L.length := by
  induction L generalizing s with
  | nil => exact ⟨rfl, Nat.le_refl _⟩
  | cons n L ih =>
    have h1 : (stepW (from_ + n) [] s).2.sure = s.sure := s.wn_sure _ _
    have h2 : (stepW (from_ + n) [] s).2.waits.length ≤ s.waits.length + 1 := s.wn_waits _ _
    show (runs (stepW (from_ + n) [] :: wipeSteps from_ L) s).2.sure = _ ∧ (runs (stepW (from_ + n) [] :: wipeSteps from_ L) s).2.waits.length ≤ _
    rw [runs]
    split
    · have := ih (stepW (from_ + n) [] s).2
      exact ⟨this.1.trans h1, by rw [List.length_cons]; omega⟩
    · exact ⟨h1, by rw [List.length_cons]; omega⟩
theorem wipe_snoc {from_ : Nat} {L : List Nat} {s : St} {n : Nat} (h : (runs (wipeSteps from_ L) s).1 = 0) : runs (wipeSteps from_ (L ++ [n])) s = stepW (from_ + n) [] (runs (wipeSteps from_ L) s).2 := by
  unfold wipeSteps at h ⊢
  rw [List.map_append, runs_append, if_pos h]
  show runs [stepW (from_ + n) []] _ = _
  rw [runs]
  split
  · rename_i h1; exact Prod.ext h1.symm rfl
  · rfl
theorem soils_len (T : List (List Nat)) (u k : Nat) : (soils T u k).length ≤ k := by
  unfold soils
  exact Nat.le_trans (List.length_filter_le _ _) (by rw [List.length_range]; exact Nat.le_refl _)

theorem soils_prefix {T : List (List Nat)} {u many x : Nat} {pre : List Nat} (h : x ∈ soils T u many) (hp : pre = soils T u x) : ∃ R, soils T u many = pre ++ [x] ++ R := by
  obtain ⟨h1, h2, h3⟩ := soils_mem.1 h
  have key : ∀ d, ∃ R, soils T u (x + 1 + d) = pre ++ [x] ++ R := by
    intro d
    induction d with
    | zero => exact ⟨[], by rw [Nat.add_zero, soils_yes h2 h3, hp, List.append_nil]⟩
    | succ d ih =>
      obtain ⟨R, hR⟩ := ih
      by_cases hc : u ≤ x + 1 + d ∧ T[x + 1 + d]? ≠ some nought
      · exact ⟨R ++ [x + 1 + d], by rw [show x + 1 + (d + 1) = (x + 1 + d) + 1 by omega, soils_yes hc.1 hc.2, hR, List.append_assoc]⟩
      · exact ⟨R, by rw [show x + 1 + (d + 1) = (x + 1 + d) + 1 by omega, soils_no hc, hR]⟩
  have := key (many - (x + 1))
  rwa [show x + 1 + (many - (x + 1)) = many by omega] at this
theorem went_acted {w w' : World} {gd sb from_ many : Nat} {m : Sm} {F G : Nat → Prop} {st st' : St} (h : Held_ w gd sb from_ many m F G) (_ : m.st = st) (ha : Acted w gd F st' w') (hf : from_ + many ≤ st'.sure.length) : Went w gd sb from_ many F G ⟨st', m.l, m.down⟩ w' := by
  obtain ⟨F', hd, hb, hf2⟩ := ha
  refine ⟨F', G, ⟨hd, h.s.but hb (fun x hg hx => h.ap x hx hg), fun x hx hg => ?_, hf⟩, hb.mono (fun x _ e => .inl e), hf2, fun x hx => .inl hx⟩
  rcases hf2 x hx with k | k
  · exact h.ap x k hg
  · have := h.s.2 x hg; omega
theorem sn_sure (s : St) : s.sn.sure.length = s.sure.length := (stepS_q s).1
theorem wipes_sure (s : St) (from_ : Nat) (L : List Nat) : (s.wipes from_ L).2.sure.length = s.sure.length := by
  unfold St.wipes
  rw [runs_append]
  split
  · show (runs [stepS] _).2.sure.length = _
    rw [runs]
    split
    · show (stepS _).2.sure.length = _
      rw [(stepS_q _).1, (wipe_facts from_ L s).1]
    · rw [(stepS_q _).1, (wipe_facts from_ L s).1]
  · rw [(wipe_facts from_ L s).1]

set_option maxRecDepth 100000 in
set_option maxHeartbeats 2000000 in
theorem clean_in {w : World} {gd sb from_ many : Nat} {F G : Nat → Prop} {m : Sm} (T : List (List Nat)) (h : Held_ w gd sb from_ many m F G) (hT : regionL m.st.read from_ many = T) (hw : m.st.waits.length ≤ 800000) :
    CallsIn Fence.wide 4 Tryd.prog 27 #[.pointer (some ⟨sb, 0, none⟩)] w fun e w' => e = .returned (.int .i64 (m.st.wipes from_ (soils T (usedL m.l) many)).1) ∧ Went w gd sb from_ many F G ⟨(m.st.wipes from_ (soils T (usedL m.l) many)).2, m.l, m.down⟩ w' := by
  obtain ⟨F0, hd0, hc0, hf0⟩ := h.d.tightT
  obtain ⟨⟨v, vals, hh⟩, hG⟩ := h.s
  have hfit := h.fits
  have hle := h.d.1.le
  have hTl : T.length = many := by rw [← hT]; exact regionL_length (by rw [St.read_length]; exact hfit)
  have hTg : ∀ k xs, T[k]? = some xs → m.st.read[from_ + k]? = some xs := fun k xs hx => by
    have hk := (List.getElem?_eq_some_iff.1 hx).1
    rw [← hT, regionL_get (by omega)] at hx
    exact hx
  have hTs : ∀ x ∈ T, Sec x := fun x hx => by
    obtain ⟨k, hk⟩ := List.mem_iff_getElem?.1 hx
    exact h.d.1.read x (List.mem_of_getElem? (hTg k x hk))
  have hF := h.d.2.2
  have hrow := hh.head
  have hsbl := hh.lt
  obtain ⟨u, hu⟩ : ∃ u, usedL m.l = u := ⟨_, rfl⟩
  rw [hu] at hrow ⊢
  obtain ⟨st, hst⟩ : ∃ st, m.st = st := ⟨_, rfl⟩
  rw [hst] at hTg hw hfit hle hd0 ⊢
  have hm : from_ + many ≤ 4096 := Nat.le_trans hfit hle
  have H := Lib.hid (And.intro h (And.intro hd0 (And.intro hc0 (And.intro hf0 (And.intro hst (And.intro hF (And.intro hrow hsbl)))))))
  have HT := Lib.hid (And.intro hTl (And.intro hTg (And.intro hTs (And.intro hfit (And.intro hle hw)))))
  clear h hd0 hc0 hf0 hh hG hfit hle hTl hTg hTs hT hst hF hrow hsbl hu hw
  refine callsIn_of_wp_marks Tryd.func27 rfl trivial ?_ rfl
  simp only [Tryd.ntmps27, List.size_toArray, List.length_cons, List.length_nil, Nat.reduceAdd, Nat.reduceSub, Array.replicate_succ, Array.replicate_zero, List.push_toArray, List.append_toArray, List.nil_append, List.cons_append]
  gi_wp2
  obtain ⟨b, hb⟩ : ∃ b, w.heap.size = b := ⟨_, rfl⟩
  have hb0 : Below w.heap.size w ((w.alloc (.cells #[.pointer (some ⟨sb, 0, none⟩)] 31)).alloc (.cells #[.int .i64 0] 28)) := ((Below.refl _ w).alloc (Nat.le_refl _) _).alloc (by simp) _
  have z0 : ((w.alloc (.cells #[.pointer (some ⟨sb, 0, none⟩)] 31)).alloc (.cells #[.int .i64 0] 28)).heap.size = b + 2 := by simp [hb]
  have x0 : Boxed ((w.alloc (.cells #[.pointer (some ⟨sb, 0, none⟩)] 31)).alloc (.cells #[.int .i64 0] 28)) b 31 (.pointer (some ⟨sb, 0, none⟩)) := by rw [← hb]; exact (Boxed.new w _ _).alloc _
  have x1 : Boxed ((w.alloc (.cells #[.pointer (some ⟨sb, 0, none⟩)] 31)).alloc (.cells #[.int .i64 0] 28)) (b + 1) 28 (.int .i64 0) := by
    have := Boxed.new (w.alloc (.cells #[.pointer (some ⟨sb, 0, none⟩)] 31)) 28 (.int .i64 0)
    rwa [World.size_alloc, hb] at this
  obtain ⟨W0, hW0⟩ : ∃ W0, (w.alloc (.cells #[.pointer (some ⟨sb, 0, none⟩)] 31)).alloc (.cells #[.int .i64 0] 28) = W0 := ⟨_, rfl⟩
  rw [hW0] at hb0 z0 x0 x1 ⊢
  rw [hb]
  have k0 : Cln w gd b sb F 0 st W0 := ⟨⟨F0, H.out.2.1.below hb0, fun x hx => by
    obtain ⟨c, t, f, e, hn⟩ := H.out.2.2.1 x hx
    exact ⟨c, t, f, (hb0.block x (H.out.2.1.2.2 x hx)).trans e, hn⟩, fun x hx => .inl (H.out.2.2.2.1 x hx)⟩, But.of_below hb0, by omega, x0, x1⟩
  have hmix : Tryd.prog.follows .mixedOrders = true := by kernel_rfl
  have hrow0 := (hb0.block sb H.out.2.2.2.2.2.2.2).trans H.out.2.2.2.2.2.2.1
  have HR0 := Lib.hid hrow0
  clear hW0 x0 x1
  refine wpIn_range_R rfl (by decide) (gf := 26) (bd := #[.pointer (some ⟨sb, 0, none⟩)]) (lb := #[]) rfl trivial (enters_of Tryd.func26 (by kernel_rfl) rfl)
    (encs := fun x : Nat => #[.int .i64 (x : Int)]) (Ty := Mine_)
    (fun W1 hb1 => soiled_seq (u := u) T HT.out.1 HT.out.2.2.1 hm Mine_ (fun _ h => h) (fun pre W => ∃ F', Disk W gd F' (runs (wipeSteps from_ pre) st).2 ∧ TypIn F' W) W1
      (fun k W2 xs hx hg => by
        obtain ⟨F', hd, _⟩ := hg
        refine ⟨F', _, hd, ?_⟩
        rw [wipe_read _ _ _ _ (fun n hn => by have := (soils_mem.1 hn).1; omega)]
        exact HT.out.2.1 k xs hx)
      (fun _ _ _ _ h hg hr => by obtain ⟨F', hd, hc⟩ := h; exact ⟨F', (hd.step hc.cells hg (fun r e => (hr r e).2)).1, hc.step hg (fun r e => (hr r e).2)⟩)
      (by
        obtain ⟨F', hd, hc, _⟩ := k0.disk
        refine ⟨F', hd.below hb1, fun x hx => ?_⟩
        obtain ⟨c, t, f, e, hn⟩ := hc x hx
        exact ⟨c, t, f, (hb1.block x (hd.2.2 x hx)).trans e, hn⟩)
      ((hb1.block sb (Nat.lt_of_lt_of_le H.out.2.2.2.2.2.2.2 hb0.size)).trans hrow0)) (fun _ => rfl)
    (fun pre x _ _ _ _ h hg hr => ⟨h.1, h.2.1, h.2.2.1, h.2.2.2.1, (by obtain ⟨F', hd, hc⟩ := h.2.2.2.2; exact ⟨F', (hd.step hc.cells hg (fun r e => (hr r e).2)).1, hc.step hg (fun r e => (hr r e).2)⟩)⟩)
    (fun _ _ _ _ h hg hr => by obtain ⟨F', hd, hc⟩ := h; exact ⟨F', (hd.step hc.cells hg (fun r e => (hr r e).2)).1, hc.step hg (fun r e => (hr r e).2)⟩)
    (fun _ _ _ _ h _ _ => h) (fun _ _ _ _ h _ _ => h)
    (fun pre W => Cln w gd b sb F 0 (runs (wipeSteps from_ pre) st).2 W ∧ (runs (wipeSteps from_ pre) st).1 = 0 ∧ W.heap[sb]? = W0.heap[sb]?)
    (fun pre W => Cln w gd b sb F 9 (st.wipes from_ (soils T u many)).2 W ∧ (st.wipes from_ (soils T u many)).1 = 9)
    (fun _ _ _ _ h hg hr => ⟨h.1.step hb hg (fun r e => ⟨by have := (hr r e).1; omega, (hr r e).2⟩), h.2.1, ((row_step (h.2.2.trans hrow0) hg (fun r e => (hr r e).2)).trans hrow0.symm)⟩)
    (fun _ _ _ _ h hg hr => ⟨h.1.step hb hg (fun r e => ⟨by have := (hr r e).1; omega, (hr r e).2⟩), h.2⟩) ⟨k0, rfl, rfl⟩
    (fun x => { tmps := #[.pointer (some ⟨sb, 0, none⟩), .pointer (some ⟨b, 0, none⟩), .pointer (some ⟨b + 1, 0, none⟩), .int .i64 (x : Int), undef, .pointer (some ⟨sb, 0, none⟩), .func (.func 26) #[.pointer (some ⟨sb, 0, none⟩)] #[], .int .i64 (x : Int), undef, undef, undef, undef, undef, undef, undef, undef, undef, undef, undef, undef, undef, undef, undef, undef, undef, undef, undef, undef, undef, undef], defers := [] }) ?assign ?body ?done ?stop
  case assign =>
    intro l2 x Wc K hK
    gi_wp2
    exact hK
  case body =>
    rintro l2 pre x Wc ⟨hcl, h0c, hsr⟩ ⟨hxm, hux, hxn, hpre, _⟩
    have hF := H.out.2.2.2.2.2.1
    have hwf := wipe_facts from_ pre st
    have hpl : pre.length ≤ 4096 := by rw [hpre]; have := soils_len T u x; omega
    have hsn := wipe_snoc (n := x) h0c
    obtain ⟨st1, hst1⟩ : ∃ s, (runs (wipeSteps from_ pre) st).2 = s := ⟨_, rfl⟩
    rw [hst1] at hcl hwf hsn
    have hmem : x ∈ soils T u many := soils_mem.2 ⟨hxm, hux, hxn⟩
    have C := hcl.drew.act hb hF (Q := fun e => e = .returned (.int .i64 st1.sc)) (fun F' hd _ => write_gen (k := from_ + x) (by rw [hwf.1]; have := HT.out.2.2.2.1; omega) none 0 0 [] (In.none_ _ _) (fun h => absurd h (by decide)) (fun y hy => by cases hy) (by decide)
      (by have := hwf.2; have := HT.out.2.2.2.2.2; omega) hd)
    have a0 := hcl.box.cell
    have hrow := hsr.trans hrow0
    have a1 : Wc.cell? ⟨sb, 0, none⟩ = some (.pointer (some ⟨gd, 0, none⟩)) := by rw [cell_of_row _ sb 0 _ _ (0, 0) hrow]; rfl
    have a2 : Wc.cell? ⟨sb, 1, none⟩ = some (.int .i64 (from_ : Int)) := by rw [cell_of_row _ sb 1 _ _ (0, 0) hrow]; rfl
    obtain ⟨q, hq⟩ : ∃ q, from_ + x = q := ⟨_, rfl⟩
    have hsum : (from_ : Int) + (x : Int) = (q : Int) := by omega
    have hwr : IntKind.i64.wrap (q : Int) = (q : Int) := by rw [IntKind.wrap_i64]; omega
    rw [hq] at C hsn
    have HW := Lib.hid (And.intro hsr (And.intro hmem (And.intro hpre hrow)))
    have hA : st1.sc = 0 → runs (wipeSteps from_ (pre ++ [x])) st = (0, st1.wn q []) := fun hsc => by rw [hsn]; show (st1.sc, _) = _; rw [hsc]
    have hB : st1.sc = 9 → st.wipes from_ (soils T u many) = (9, st1.wn q []) := fun hsc => by
      have hsn2 : runs (wipeSteps from_ (pre ++ [x])) st = (9, st1.wn q []) := by rw [hsn]; show (st1.sc, _) = _; rw [hsc]
      obtain ⟨R, hR⟩ := soils_prefix hmem hpre
      unfold St.wipes wipeSteps
      rw [hR, List.map_append, List.append_assoc, runs_append]
      have h1 : runs ((pre ++ [x]).map (fun n => stepW (from_ + n) [])) st = (9, st1.wn q []) := hsn2
      rw [h1]
      exact if_neg (by decide : ¬ (9 : Int) = 0)
    have hC : st1.sc = 0 ∨ st1.sc = 9 := st1.sc_code
    obtain ⟨z, hz⟩ : ∃ z, st1.sc = z := ⟨_, rfl⟩
    rw [hz] at C hA hB hC
    have HC := Lib.hid C
    have HS := Lib.hid (And.intro hA (And.intro hB hC))
    clear C hsn hA hB hC hz hcl hwf hst1 h0c hsr hxm hux hxn hpre hmem hrow hq hF hpl k0 hrow0 hb0
    gi_wp2
    have hS : Wc.drew.cell? ⟨b, 0, none⟩ = some (.pointer (some ⟨sb, 0, none⟩)) ∧ Wc.drew.cell? ⟨sb, 0, none⟩ = some (.pointer (some ⟨gd, 0, none⟩)) ∧ Wc.drew.cell? ⟨sb, 1, none⟩ = some (.int .i64 (from_ : Int)) := ⟨a0, a1, a2⟩
    refine region_in (S := fun W => W.cell? ⟨b, 0, none⟩ = some (.pointer (some ⟨sb, 0, none⟩)) ∧ W.cell? ⟨sb, 0, none⟩ = some (.pointer (some ⟨gd, 0, none⟩)) ∧ W.cell? ⟨sb, 1, none⟩ = some (.int .i64 (from_ : Int))) hmix (nodefer _ (by kernel_rfl)) ?_
    refine' wpAnyH_take (i := 0) (oi := _) (v := _) ?hi0 (by kernel_rfl) ?hf0 ?hr0 ?hQ0 ?hy0 hS ?rest0
    case hi0 => (simp only [List.getElem?_toArray, List.getElem?_cons_zero]; rfl)
    case hf0 => kernel_rfl
    case hr0 => kernel_rfl
    case hQ0 => exact fun _ _ _ h => h
    case hy0 =>
      refine Or.inl ⟨by rfl, ?_⟩
      intro W hSw
      have s0 := hSw.1
      have s1 := hSw.2.1
      have s2 := hSw.2.2
      go_simp
      try with_reducible rfl
    simp only [Act.put, List.setIfInBounds_toArray, List.set_cons_zero, List.set_cons_succ]
    refine' wpAnyH_take (i := 1) (oi := _) (v := _) ?hi1 (by kernel_rfl) ?hf1 ?hr1 ?hQ1 ?hy1 hS ?rest1
    case hi1 => (simp only [List.getElem?_toArray, List.getElem?_cons_zero, List.getElem?_cons_succ]; rfl)
    case hf1 => kernel_rfl
    case hr1 => kernel_rfl
    case hQ1 => exact fun _ _ _ h => h
    case hy1 =>
      refine Or.inl ⟨by rfl, ?_⟩
      intro W hSw
      have s0 := hSw.1
      have s1 := hSw.2.1
      have s2 := hSw.2.2
      go_simp
      try with_reducible rfl
    simp only [Act.put, List.setIfInBounds_toArray, List.set_cons_zero, List.set_cons_succ]
    refine' wpAnyH_take (i := 2) (oi := _) (v := _) ?hi2 (by kernel_rfl) ?hf2 ?hr2 ?hQ2 ?hy2 hS ?rest2
    case hi2 => (simp only [List.getElem?_toArray, List.getElem?_cons_zero, List.getElem?_cons_succ]; rfl)
    case hf2 => kernel_rfl
    case hr2 => kernel_rfl
    case hQ2 => exact fun _ _ _ h => h
    case hy2 =>
      refine Or.inl ⟨by rfl, ?_⟩
      intro W hSw
      have s0 := hSw.1
      have s1 := hSw.2.1
      have s2 := hSw.2.2
      go_simp
      try with_reducible rfl
    simp only [Act.put, List.setIfInBounds_toArray, List.set_cons_zero, List.set_cons_succ]
    refine' wpAnyH_take (i := 3) (oi := _) (v := _) ?hi3 (by kernel_rfl) ?hf3 ?hr3 ?hQ3 ?hy3 hS ?rest3
    case hi3 => (simp only [List.getElem?_toArray, List.getElem?_cons_zero, List.getElem?_cons_succ]; rfl)
    case hf3 => kernel_rfl
    case hr3 => kernel_rfl
    case hQ3 => exact fun _ _ _ h => h
    case hy3 =>
      refine Or.inl ⟨by rfl, ?_⟩
      intro W hSw
      have s0 := hSw.1
      have s1 := hSw.2.1
      have s2 := hSw.2.2
      go_simp
      try with_reducible rfl
    simp only [Act.put, List.setIfInBounds_toArray, List.set_cons_zero, List.set_cons_succ]
    refine' wpAnyH_take (i := 4) (oi := _) (v := _) ?hi4 (by kernel_rfl) ?hf4 ?hr4 ?hQ4 ?hy4 hS ?rest4
    case hi4 => (simp only [List.getElem?_toArray, List.getElem?_cons_zero, List.getElem?_cons_succ]; rfl)
    case hf4 => kernel_rfl
    case hr4 => kernel_rfl
    case hQ4 => exact fun _ _ _ h => h
    case hy4 =>
      refine Or.inl ⟨by rfl, ?_⟩
      intro W hSw
      have s0 := hSw.1
      have s1 := hSw.2.1
      have s2 := hSw.2.2
      go_simp
      try with_reducible rfl
    simp only [Act.put, List.setIfInBounds_toArray, List.set_cons_zero, List.set_cons_succ]
    refine' wpAnyH_take (i := 5) (oi := _) (v := _) ?hi5 (by kernel_rfl) ?hf5 ?hr5 ?hQ5 ?hy5 hS ?rest5
    case hi5 => (simp only [List.getElem?_toArray, List.getElem?_cons_zero, List.getElem?_cons_succ]; rfl)
    case hf5 => kernel_rfl
    case hr5 => kernel_rfl
    case hQ5 => exact fun _ _ _ h => h
    case hy5 =>
      refine Or.inl ⟨by rfl, ?_⟩
      intro W hSw
      have s0 := hSw.1
      have s1 := hSw.2.1
      have s2 := hSw.2.2
      go_simp
      try with_reducible rfl
    simp only [Act.put, List.setIfInBounds_toArray, List.set_cons_zero, List.set_cons_succ]
    refine' wpAnyH_take (i := 6) (oi := _) (v := _) ?hi6 (by kernel_rfl) ?hf6 ?hr6 ?hQ6 ?hy6 hS ?rest6
    case hi6 => (simp only [List.getElem?_toArray, List.getElem?_cons_zero, List.getElem?_cons_succ]; rfl)
    case hf6 => kernel_rfl
    case hr6 => kernel_rfl
    case hQ6 => exact fun _ _ _ h => h
    case hy6 =>
      refine Or.inl ⟨by rfl, ?_⟩
      intro W hSw
      have s0 := hSw.1
      have s1 := hSw.2.1
      have s2 := hSw.2.2
      go_simp
      try with_reducible rfl
    simp only [Act.put, List.setIfInBounds_toArray, List.set_cons_zero, List.set_cons_succ]
    refine' wpAnyH_take (i := 7) (oi := _) (v := _) ?hi7 (by kernel_rfl) ?hf7 ?hr7 ?hQ7 ?hy7 hS ?rest7
    case hi7 => (simp only [List.getElem?_toArray, List.getElem?_cons_zero, List.getElem?_cons_succ]; rfl)
    case hf7 => kernel_rfl
    case hr7 => kernel_rfl
    case hQ7 => exact fun _ _ _ h => h
    case hy7 =>
      refine Or.inl ⟨by rfl, ?_⟩
      intro W hSw
      have s0 := hSw.1
      have s1 := hSw.2.1
      have s2 := hSw.2.2
      go_simp
      try with_reducible rfl
    simp only [Act.put, List.setIfInBounds_toArray, List.set_cons_zero, List.set_cons_succ]
    refine' wpAnyH_take (i := 8) (oi := _) (v := _) ?hi8 (by kernel_rfl) ?hf8 ?hr8 ?hQ8 ?hy8 hS ?rest8
    case hi8 => (simp only [List.getElem?_toArray, List.getElem?_cons_zero, List.getElem?_cons_succ]; rfl)
    case hf8 => kernel_rfl
    case hr8 => kernel_rfl
    case hQ8 => exact fun _ _ _ h => h
    case hy8 =>
      refine Or.inl ⟨by rfl, ?_⟩
      intro W hSw
      have s0 := hSw.1
      have s1 := hSw.2.1
      have s2 := hSw.2.2
      go_simp
      try with_reducible rfl
    simp only [Act.put, List.setIfInBounds_toArray, List.set_cons_zero, List.set_cons_succ]
    refine' wpAnyH_take (i := 9) (oi := _) (v := _) ?hi9 (by kernel_rfl) ?hf9 ?hr9 ?hQ9 ?hy9 hS ?rest9
    case hi9 => (simp only [List.getElem?_toArray, List.getElem?_cons_zero, List.getElem?_cons_succ]; rfl)
    case hf9 => kernel_rfl
    case hr9 => kernel_rfl
    case hQ9 => exact fun _ _ _ h => h
    case hy9 =>
      refine Or.inl ⟨by rfl, ?_⟩
      intro W hSw
      have s0 := hSw.1
      have s1 := hSw.2.1
      have s2 := hSw.2.2
      go_simp
      try with_reducible rfl
    simp only [Act.put, List.setIfInBounds_toArray, List.set_cons_zero, List.set_cons_succ]
    refine' wpAnyH_take (i := 10) (oi := _) (v := _) ?hi10 (by kernel_rfl) ?hf10 ?hr10 ?hQ10 ?hy10 hS ?rest10
    case hi10 => (simp only [List.getElem?_toArray, List.getElem?_cons_zero, List.getElem?_cons_succ]; rfl)
    case hf10 => kernel_rfl
    case hr10 => kernel_rfl
    case hQ10 => exact fun _ _ _ h => h
    case hy10 =>
      refine Or.inl ⟨by rfl, ?_⟩
      intro W hSw
      have s0 := hSw.1
      have s1 := hSw.2.1
      have s2 := hSw.2.2
      go_simp
      try with_reducible rfl
    simp only [Act.put, List.setIfInBounds_toArray, List.set_cons_zero, List.set_cons_succ]
    refine' wpAnyH_take (i := 11) (oi := _) (v := _) ?hi11 (by kernel_rfl) ?hf11 ?hr11 ?hQ11 ?hy11 hS ?rest11
    case hi11 => (simp only [List.getElem?_toArray, List.getElem?_cons_zero, List.getElem?_cons_succ]; rfl)
    case hf11 => kernel_rfl
    case hr11 => kernel_rfl
    case hQ11 => exact fun _ _ _ h => h
    case hy11 =>
      refine Or.inl ⟨by rfl, ?_⟩
      intro W hSw
      have s0 := hSw.1
      have s1 := hSw.2.1
      have s2 := hSw.2.2
      go_simp
      try with_reducible rfl
    simp only [Act.put, List.setIfInBounds_toArray, List.set_cons_zero, List.set_cons_succ]
    refine wpAnyH_ready (rs := [12]) (by kernel_rfl) (by simp) ?_
    refine' AllReadyH.cons (o := _) ?hi12 (fun K' hK => ?_) AllReadyH.nil
    case hi12 => (simp only [List.getElem?_toArray, List.getElem?_cons_zero, List.getElem?_cons_succ]; rfl)
    rw [if_pos (by rfl)]
    go_simp
    refine HC.out.mono ?_
    rintro e w3 ⟨rfl, hc3, hko, hkt⟩
    have hS3 : w3.cell? ⟨b, 0, none⟩ = some (.pointer (some ⟨sb, 0, none⟩)) ∧ w3.cell? ⟨sb, 0, none⟩ = some (.pointer (some ⟨gd, 0, none⟩)) ∧ w3.cell? ⟨sb, 1, none⟩ = some (.int .i64 (from_ : Int)) := by
      have h3 := hkt _ _ _ _ (.inr (.inr (.inr (.inr (.inr rfl))))) HW.out.2.2.2
      exact ⟨Boxed.cell hc3.box, by rw [cell_of_row _ sb 0 _ _ (0, 0) h3]; rfl, by rw [cell_of_row _ sb 1 _ _ (0, 0) h3]; rfl⟩
    refine hK.out _ _ hS3 (fun _ => ?_)
    clear hK K'
    refine' wpAnyH_take (i := 13) (oi := _) (v := _) ?hi13 (by kernel_rfl) ?hf13 ?hr13 ?hQ13 ?hy13 hS3 ?rest13
    case hi13 => (simp only [List.getElem?_toArray, List.getElem?_cons_zero, List.getElem?_cons_succ]; rfl)
    case hf13 => kernel_rfl
    case hr13 => kernel_rfl
    case hQ13 => exact fun _ _ _ h => h
    case hy13 =>
      refine Or.inl ⟨by rfl, ?_⟩
      intro W hSw
      have s0 := hSw.1
      have s1 := hSw.2.1
      have s2 := hSw.2.2
      go_simp
      try with_reducible rfl
    simp only [Act.put, List.setIfInBounds_toArray, List.set_cons_zero, List.set_cons_succ]
    refine wpAnyH_done (by kernel_rfl) ?_ _
    have hsr3 : w3.heap[sb]? = W0.heap[sb]? := (hkt _ _ _ _ (.inr (.inr (.inr (.inr (.inr rfl))))) HW.out.2.2.2).trans HR0.out.symm
    have cr : w3.cell? ⟨b + 1, 0, none⟩ = some (.int .i64 0) := Boxed.cell hc3.res
    have fr : w3.frozen? ⟨b + 1, 0, none⟩ = false := Boxed.frozen hc3.res
    have H3 := Lib.hid (And.intro hc3 (And.intro hko (And.intro hkt hsr3)))
    clear hc3 hko hkt hsr3
    rcases HS.out.2.2 with rfl | rfl
    · gi_wp2
      refine ⟨(((KeepsOthers.drew Wc).trans H3.out.2.1)).from _, H3.out.2.2.1, ?_, ?_, ?_, H3.out.2.2.2⟩
      · show ∃ F', Disk w3 gd F' (runs (wipeSteps from_ (pre ++ [x])) st).2 ∧ TypIn F' w3
        rw [HS.out.1 (by first | rfl | trivial)]
        obtain ⟨F', hd, hc, _⟩ := H3.out.1.disk
        exact ⟨F', hd, hc⟩
      · rw [HS.out.1 (by first | rfl | trivial)]; exact H3.out.1
      · rw [HS.out.1 (by first | rfl | trivial)]
    · gi_wp2
      refine ⟨((((KeepsOthers.drew Wc).trans H3.out.2.1)).trans (KeepsOthers.setCell _ _ _)).from _, ?_, ?_⟩
      · rw [HS.out.2.1 (by first | rfl | trivial)]; exact H3.out.1.setRes hb H.out.2.2.2.2.2.1 9
      · rw [HS.out.2.1 (by first | rfl | trivial)]
  case done =>
    rintro D ys Wc hD rfl ⟨hcl, h0c, hsr⟩ hK
    have hF := H.out.2.2.2.2.2.1
    have hrow := hsr.trans hrow0
    have a0 := hcl.box.cell
    have a1 : Wc.cell? ⟨sb, 0, none⟩ = some (.pointer (some ⟨gd, 0, none⟩)) := by rw [cell_of_row _ sb 0 _ _ (0, 0) hrow]; rfl
    obtain ⟨st1, hst1⟩ : ∃ s, (runs (wipeSteps from_ (soils T u many)) st).2 = s := ⟨_, rfl⟩
    have hfin : st.wipes from_ (soils T u many) = (st1.sc, st1.sn) := by
      unfold St.wipes
      rw [runs_append, if_pos h0c, hst1]
      show runs [stepS] st1 = _
      rw [runs]
      split
      · rename_i h1; exact Prod.ext h1.symm rfl
      · rfl
    rw [hst1] at hcl
    have C := hcl.act hb hF (Q := fun e => e = .returned (.int .i64 st1.sc)) (fun F' hd _ => sync_gen hd)
    have HC := Lib.hid C
    have HS := Lib.hid (And.intro hfin hF)
    clear C hfin hcl hst1 hrow hsr h0c hF
    gi_wp2_with (first
      | (refine ⟨trivial, ?_⟩; gi_at_call 36; refine (callsIn_wide.2 HC.out).mono ?_; rintro e w3 ⟨rfl, hc3, hko, hkt⟩; have cr : w3.cell? ⟨b + 1, 0, none⟩ = some (.int .i64 0) := Boxed.cell hc3.res; have fr : w3.frozen? ⟨b + 1, 0, none⟩ = false := Boxed.frozen hc3.res))
    have hK3 := (hko.trans (KeepsOthers.setCell w3 ⟨b + 1, 0, none⟩ (.int .i64 st1.sc))).same D _ hK rfl
    have hc4 := hc3.setRes hb HS.out.2 st1.sc
    have hc5 := hc4.step hb (grownBy_putObj' _ D (.deferred none)) (fun r e => by cases e; exact ⟨by omega, _, hK3, rfl⟩)
    have c5 : ((w3.setCell ⟨b + 1, 0, none⟩ (.int .i64 st1.sc)).putObj D (.deferred none)).cell? ⟨b + 1, 0, none⟩ = some (.int .i64 st1.sc) := Boxed.cell hc5.res
    refine ⟨by simp, .inl ⟨_, _, rfl, run_takeDeferred hK3, ?_⟩⟩
    refine ⟨.int .i64 st1.sc, by simp [results, go_sem, c5], by rw [HS.out.1], ?_⟩
    rw [HS.out.1]
    exact went_acted H.out.1 H.out.2.2.2.2.1 (hc5.acted hb) (by have h1 := wipes_sure st from_ (soils T u many); rw [HS.out.1] at h1; show from_ + many ≤ st1.sn.sure.length; rw [h1]; exact HT.out.2.2.2.1)
  case stop =>
    rintro D pre Wc hD _ ⟨ho, h9⟩ hK
    have ho4 := ho.step hb (grownBy_putObj' _ D (.deferred none)) (fun r e => by cases e; exact ⟨by omega, _, hK, rfl⟩)
    have c5 : (Wc.putObj D (.deferred none)).cell? ⟨b + 1, 0, none⟩ = some (.int .i64 9) := Boxed.cell ho4.res
    have HF := Lib.hid (And.intro (ho4.acted hb) h9)
    clear ho ho4
    gi_wp2
    refine ⟨by simp, .inl ⟨_, _, rfl, run_takeDeferred hK, ?_⟩⟩
    refine ⟨.int .i64 9, by simp [results, go_sem, c5], by rw [HF.out.2], ?_⟩
    exact went_acted H.out.1 H.out.2.2.2.2.1 HF.out.1 (by rw [wipes_sure]; exact HT.out.2.2.2.1)

end Go.Proofs.YtjkohceigdfmjaaDoor

/-
  Open.
-/
namespace Go.Proofs.YtjkohceigdfmjaaDoor
open Go.RowKit Go.Shelf

attribute [local go_sem] Oper.semAt_some

set_option maxRecDepth 100000 in
set_option maxHeartbeats 1000000 in
theorem open_arg_in {w : World} {gd : Nat} {F : Nat → Prop} {st : St} {f m : Int} (h : Disk w gd F st) (h1 : 0 ≤ f) (h2 : 1 ≤ m) (h3 : (st.sure.length : Int) - f < m) (h4 : f ≤ 100000) :
    CallsIn Fence.wide 5 Tryd.prog 10 #[.pointer (some ⟨gd, 0, none⟩), .int .i64 f, .int .i64 m] w fun e w' => e = .returned (.tuple #[.pointer none, .int .i64 1]) ∧ Below w.heap.size w w' := by
  obtain ⟨N, hN⟩ : ∃ N, st.sure.length = N := ⟨_, rfl⟩
  have hle := h.1.le
  have hpos := h.1.pos
  have b2 : ∀ o1 o2, Below w.heap.size w ((w.alloc o1).alloc o2) := fun o1 o2 => ((Below.refl _ w).alloc (Nat.le_refl _) _).alloc (by simp) _
  have C := fun o1 o2 => len_any (h.below (b2 o1 o2))
  rw [hN] at C h3 hle hpos
  have g1 : ¬ (N : Int) < 1 := by omega
  have g2 : ¬ f < 0 := by omega
  have g3 : ¬ m < 1 := by omega
  have HC := Lib.hid C
  clear C h hN b2
  refine callsIn_of_wp_marks Tryd.func10 rfl trivial ?_ rfl
  simp only [Tryd.ntmps10, List.size_toArray, List.length_cons, List.length_nil, Nat.reduceAdd, Nat.reduceSub, Array.replicate_succ, Array.replicate_zero, List.push_toArray, List.append_toArray, List.nil_append, List.cons_append]
  gi_wp2_with (first
    | (refine ⟨trivial, ?_⟩; gi_at_call 24; refine (callsIn_wide.2 (HC.out _ _)).mono ?_; rintro e w1 ⟨rfl, rfl⟩))
  refine ⟨_, by simp [results, go_sem], rfl, ?_⟩
  exact ((Below.refl _ w).alloc (Nat.le_refl _) _).alloc (by simp) _

theorem soiled_more {α : Type} {n n' : Nat} {P : Program} {gf : Nat} {bd lb : Array Value} {encs : α → Array Value} {Ty : TypeId → Prop} {R : List α → α → World → Prop} {G S Sp : List α → World → Prop} {w : World} (_ : 1 ≤ n') (h : SeqR Fence.wide n P gf bd lb encs Ty R G S Sp w) :
    SeqR Fence.wide n' P gf bd lb encs Ty R G S Sp w := fun l J Jx hJ hJx hY h0 => by
  refine callsIn_wide.2 ((callsIn_wide (n := n)).1 (h l J Jx hJ hJx (fun pre x W hj hr => ?_) h0))
  obtain ⟨fn, tmps, assign, body, hy, hR⟩ := hY pre x W hj hr
  exact ⟨fn, tmps, assign, body, hy, hR.1, fun c cs _ => hR.2 c cs (fun d e => by cases e)⟩

/-- What Open finds, and does. -/
def St.tooFar (st : St) (from_ many : Nat) : Prop := ∃ n ∈ soils (regionL st.read from_ many) (usedL (found (regionL st.read from_ many))) many, usedL (found (regionL st.read from_ many)) + 5 ≤ n
def St.opens (st : St) (from_ many : Nat) : Int × St := st.wipes from_ (soils (regionL st.read from_ many) (usedL (found (regionL st.read from_ many))) many)
def St.foundIn (st : St) (from_ many : Nat) : List (List Nat) := found (regionL st.read from_ many)

/-- What Open leaves. -/
def Opened (w : World) (gd from_ many : Nat) (F : Nat → Prop) (st : St) (e : Ending) (w' : World) : Prop :=
  (st.tooFar from_ many ∧ e = .returned (.tuple #[.pointer none, .int .i64 4]) ∧ Acted w gd F st w') ∨
  (¬ st.tooFar from_ many ∧ (st.opens from_ many).1 ≠ 0 ∧ e = .returned (.tuple #[.pointer none, .int .i64 (st.opens from_ many).1]) ∧ Acted w gd F (st.opens from_ many).2 w') ∨
  (¬ st.tooFar from_ many ∧ (st.opens from_ many).1 = 0 ∧ ∃ sb F' G', e = .returned (.tuple #[.pointer (some ⟨sb, 0, none⟩), .int .i64 0]) ∧ Held_ w' gd sb from_ many ⟨(st.opens from_ many).2, st.foundIn from_ many, false⟩ F' G' ∧ But F w w' ∧ (∀ x, F' x → F x ∨ w.heap.size ≤ x) ∧ ∀ x, G' x → w.heap.size ≤ x)

set_option maxRecDepth 100000 in
set_option maxHeartbeats 2000000 in
theorem open_go {w : World} {gd from_ many : Nat} {F : Nat → Prop} {st : St} (E : Errs) (hE : ∀ W, But F w W → Laid W E) (h : Disk w gd F st) (h1 : 1 ≤ many) (hfit : from_ + many ≤ st.sure.length) (hw : st.waits.length ≤ 800000) :
    CallsIn Fence.wide 5 Tryd.prog 10 #[.pointer (some ⟨gd, 0, none⟩), .int .i64 (from_ : Int), .int .i64 (many : Int)] w (Opened w gd from_ many F st) := by
  have hle := h.1.le
  have hF := h.2.2
  obtain ⟨N, hN⟩ : ∃ N, st.sure.length = N := ⟨_, rfl⟩
  have b2 : ∀ o1 o2, Below w.heap.size w ((w.alloc o1).alloc o2) := fun o1 o2 => ((Below.refl _ w).alloc (Nat.le_refl _) _).alloc (by simp) _
  have C := fun o1 o2 => len_any (h.below (b2 o1 o2))
  rw [hN] at C hfit hle
  have g1 : ¬ (N : Int) < 1 := by omega
  have g2 : ¬ (from_ : Int) < 0 := by omega
  have g2' : decide ((from_ : Int) < 0) = false := by simp
  have g3 : ¬ (many : Int) < 1 := by omega
  have g4 : ¬ (N : Int) - (from_ : Int) < (many : Int) := by omega
  have HC := Lib.hid C
  have H := Lib.hid (And.intro h (And.intro hE (And.intro hw (And.intro hN (And.intro hF (And.intro h1 hfit))))))
  clear C h hE hw hN hF b2 h1
  refine callsIn_of_wp_marks Tryd.func10 rfl trivial ?_ rfl
  simp only [Tryd.ntmps10, List.size_toArray, List.length_cons, List.length_nil, Nat.reduceAdd, Nat.reduceSub, Array.replicate_succ, Array.replicate_zero, List.push_toArray, List.append_toArray, List.nil_append, List.cons_append]
  gi_wp2_with (first
    | (refine ⟨trivial, ?_⟩; gi_at_call 24; refine (callsIn_wide.2 (HC.out _ _)).mono ?_; rintro e w1 ⟨rfl, rfl⟩))
  obtain ⟨r0, hr0⟩ : ∃ r0, w.heap.size = r0 := ⟨_, rfl⟩
  obtain ⟨W0, hW0⟩ : ∃ W0, ((((w.alloc (.cells #[.pointer none] 31)).alloc (.cells #[.int .i64 0] 28)).alloc (.cells #[.pointer (some ⟨gd, 0, none⟩), .int .i64 (from_ : Int), .int .i64 (many : Int), .slice none 0 0, .int .i64 0, .bool false] 59)).alloc (.cells #[.pointer (some ⟨w.heap.size + 1 + 1, 0, none⟩)] 31)) = W0 := ⟨_, rfl⟩
  have z0 : W0.heap.size = r0 + 4 := by rw [← hW0, ← hr0]; simp
  have b0 : Below w.heap.size w W0 := by rw [← hW0]; exact ((((Below.refl _ w).alloc (Nat.le_refl _) _).alloc (by simp) _).alloc (by simp <;> omega) _).alloc (by simp <;> omega) _
  have x0 : Boxed W0 r0 31 (.pointer none) := by
    unfold Boxed; rw [← hW0, ← hr0, heap_alloc_old _ _ _ (by simp <;> omega), heap_alloc_old _ _ _ (by simp <;> omega), heap_alloc_old _ _ _ (by simp), heap_alloc_new]
  have n1 := heap_alloc_new (w.alloc (.cells #[.pointer none] 31)) (.cells #[.int .i64 0] 28)
  have n2 := heap_alloc_new ((w.alloc (.cells #[.pointer none] 31)).alloc (.cells #[.int .i64 0] 28)) (.cells #[.pointer (some ⟨gd, 0, none⟩), .int .i64 (from_ : Int), .int .i64 (many : Int), .slice none 0 0, .int .i64 0, .bool false] 59)
  have n3 := heap_alloc_new (((w.alloc (.cells #[.pointer none] 31)).alloc (.cells #[.int .i64 0] 28)).alloc (.cells #[.pointer (some ⟨gd, 0, none⟩), .int .i64 (from_ : Int), .int .i64 (many : Int), .slice none 0 0, .int .i64 0, .bool false] 59)) (.cells #[.pointer (some ⟨w.heap.size + 1 + 1, 0, none⟩)] 31)
  simp only [World.size_alloc, Nat.add_assoc, Nat.reduceAdd] at n1 n2 n3
  have x1 : Boxed W0 (r0 + 1) 28 (.int .i64 0) := by
    unfold Boxed; rw [← hW0, ← hr0, heap_alloc_old _ _ _ (by simp <;> omega), heap_alloc_old _ _ _ (by simp), n1]
  have x2 : W0.heap[r0 + 2]? = some (.cells #[.pointer (some ⟨gd, 0, none⟩), .int .i64 (from_ : Int), .int .i64 (many : Int), .slice none 0 0, .int .i64 0, .bool false] 59 (0, 0)) := by
    rw [← hW0, ← hr0, heap_alloc_old _ _ _ (by simp), n2]
  have x3 : Boxed W0 (r0 + 3) 31 (.pointer (some ⟨r0 + 2, 0, none⟩)) := by
    unfold Boxed; rw [← hW0, ← hr0]; exact n3
  have hsto : StoAt W0 (r0 + 2) gd from_ many (.slice none 0 0) [] (fun x => x = r0 + 2) [] false := ⟨x2, ⟨rfl, .inl ⟨rfl, rfl⟩⟩, rfl, (fun i u b hu _ => by simp at hu), rfl, (fun x hx => by cases hx), (fun b hb => by cases hb), Nat.zero_le _⟩
  have hheld : Held_ W0 gd (r0 + 2) from_ many ⟨st, [], false⟩ F (fun x => x = r0 + 2) := ⟨H.out.1.below b0, ⟨⟨_, _, hsto⟩, fun x hx => by omega⟩, fun x hx e => by have := H.out.2.2.2.2.1 x hx; omega, by rw [H.out.2.2.2.1]; exact H.out.2.2.2.2.2.2⟩
  have CF := find_in E (fun W hb => H.out.2.1 W ((But.of_below b0 : But F w W0).next hb (fun x hx e => e.elim id (fun k => by omega)))) hheld
  have HX := Lib.hid (And.intro x0 (And.intro x1 (And.intro x3 (And.intro b0 (And.intro z0 hr0)))))
  have HCF := Lib.hid CF
  rw [hW0, hr0]
  clear hW0 x0 x1 x2 x3 n1 n2 n3 hsto hheld CF b0 HC
  refine ⟨trivial, ?_⟩
  refine (callsIn_wide.2 ((callsIn_wide (n := 3)).1 HCF.out)).mono ?_
  rintro e w3 ⟨rfl, F', G', hh3, hb3, hf3, hg3⟩
  clear HCF
  have hF := H.out.2.2.2.2.1
  have keep3 : ∀ x, r0 ≤ x → x < r0 + 4 → x ≠ r0 + 2 → w3.heap[x]? = W0.heap[x]? := fun x h1 h2 h3 => hb3.block x (by omega) (fun e => e.elim (fun k => by have := hF x k; omega) (fun k => h3 k))
  have y0 : Boxed w3 r0 31 (.pointer none) := (keep3 _ (by omega) (by omega) (by omega)).trans HX.out.1
  have y1 : Boxed w3 (r0 + 1) 28 (.int .i64 0) := (keep3 _ (by omega) (by omega) (by omega)).trans HX.out.2.1
  have y3 : Boxed w3 (r0 + 3) 31 (.pointer (some ⟨r0 + 2, 0, none⟩)) := (keep3 _ (by omega) (by omega) (by omega)).trans HX.out.2.2.1
  have hF'0 : ∀ x, F' x → x < w3.heap.size ∧ (F x ∨ r0 + 4 ≤ x) := fun x hx => ⟨hh3.d.2.2 x hx, (hf3 x hx).imp id (fun e => by omega)⟩
  have hG'0 : ∀ x, G' x → x < w3.heap.size ∧ (x = r0 + 2 ∨ r0 + 4 ≤ x) := fun x hx => ⟨hh3.s.2 x hx, (hg3 x hx).imp id (fun e => by omega)⟩
  have hbw : But F w w3 := (But.of_below HX.out.2.2.2.1 : But F w W0).next hb3 (fun x hx e => e.elim id (fun k => by omega))
  obtain ⟨T, hT⟩ : ∃ T, regionL st.read from_ many = T := ⟨_, rfl⟩
  rw [hT] at hh3
  obtain ⟨u, hu⟩ : ∃ u, usedL (found T) = u := ⟨_, rfl⟩
  have a3 : w3.cell? ⟨r0 + 1 + 1 + 1, 0, none⟩ = some (.pointer (some ⟨r0 + 2, 0, none⟩)) := Boxed.cell y3
  have z3 : r0 + 4 ≤ w3.heap.size := by have := hb3.size; omega
  have H3 := Lib.hid (And.intro hh3 (And.intro y0 (And.intro y1 (And.intro y3 (And.intro hF'0 (And.intro hG'0 (And.intro hbw (And.intro hT (And.intro hu z3)))))))))
  clear hh3 y0 y1 y3 hF'0 hG'0 hbw hT hu keep3 hb3 hf3 hg3 z3 hF
  gi_wp2
  have hle3 := H3.out.1.d.1.le
  have hfit3 := H3.out.1.fits
  have hTl : T.length = many := by rw [← H3.out.2.2.2.2.2.2.2.1]; exact regionL_length (by rw [St.read_length]; exact hfit3)
  have hTg : ∀ k xs, T[k]? = some xs → st.read[from_ + k]? = some xs := fun k xs hx => by
    have hk := (List.getElem?_eq_some_iff.1 hx).1
    rw [← H3.out.2.2.2.2.2.2.2.1, regionL_get (by omega)] at hx
    exact hx
  have hTs : ∀ x ∈ T, Sec x := fun x hx => by
    obtain ⟨k, hk⟩ := List.mem_iff_getElem?.1 hx
    exact H3.out.1.d.1.read x (List.mem_of_getElem? (hTg k x hk))
  obtain ⟨F0, hd0, hc0, hf0⟩ := H3.out.1.d.tightT
  obtain ⟨⟨v3, vals3, hh4⟩, hGs⟩ := H3.out.1.s
  have hrow := hh4.head
  have hus : usedL (found T) = u := H3.out.2.2.2.2.2.2.2.2.1
  rw [hus] at hrow
  have hm4 : from_ + many ≤ 4096 := by omega
  have HT := Lib.hid (And.intro hTl (And.intro hTg (And.intro hTs (And.intro hd0 (And.intro hc0 (And.intro hrow hus))))))
  have hul : u ≤ many := by have := hh4.fits; rw [← hus]; exact this
  clear hTl hTg hTs hd0 hc0 hh4 hGs hrow hus hle3 hfit3 hf0
  have oG : OwnFrom w3.heap.size (fun (_ : List Nat) W => Disk W gd F0 st ∧ TypIn F0 W) := fun _ _ _ _ h hg hr => ⟨(h.1.step h.2.cells hg (fun r e => (hr r e).2)).1, h.2.step hg (fun r e => (hr r e).2)⟩
  refine wpIn_range_R rfl (by decide) (gf := 26) (bd := #[.pointer (some ⟨r0 + 2, 0, none⟩)]) (lb := #[]) rfl trivial (enters_of Tryd.func26 (by kernel_rfl) rfl)
    (encs := fun x : Nat => #[.int .i64 (x : Int)]) (Ty := Mine_)
    (fun W1 hb1 => soiled_more (by decide) (soiled_seq (u := u) T HT.out.1 HT.out.2.2.1 hm4 Mine_ (fun _ h => h) (fun _ W => Disk W gd F0 st ∧ TypIn F0 W) W1
      (fun k W2 xs hx hg => ⟨F0, _, hg.1, HT.out.2.1 k xs hx⟩)
      (fun _ _ _ _ h hg hr => ⟨(h.1.step h.2.cells hg (fun r e => (hr r e).2)).1, h.2.step hg (fun r e => (hr r e).2)⟩)
      (own_below oG (s := []) ⟨HT.out.2.2.2.1, HT.out.2.2.2.2.1⟩ hb1)
      ((hb1.block (r0 + 2) (by have := H3.out.2.2.2.2.2.2.2.2.2; omega)).trans HT.out.2.2.2.2.2.1))) (fun _ => rfl)
    (fun pre x _ _ _ _ h hg hr => ⟨h.1, h.2.1, h.2.2.1, h.2.2.2.1, ⟨(h.2.2.2.2.1.step h.2.2.2.2.2.cells hg (fun r e => (hr r e).2)).1, h.2.2.2.2.2.step hg (fun r e => (hr r e).2)⟩⟩)
    oG (fun _ _ _ _ h _ _ => h) (fun _ _ _ _ h _ _ => h)
    (fun pre W => Below w3.heap.size w3 W ∧ ∀ n ∈ pre, ¬ u + 5 ≤ n)
    (fun _ W => But (fun x => x = r0 ∨ x = r0 + 1) w3 W ∧ Boxed W r0 31 (.pointer none) ∧ Boxed W (r0 + 1) 28 (.int .i64 4) ∧ ∃ n ∈ soils T u many, u + 5 ≤ n)
    (fun _ _ _ _ h hg hr => ⟨h.1.grown hg h.1.size (fun k e => (hr k e).1), h.2⟩)
    (fun _ _ _ _ h hg hr => ⟨h.1.step hg (fun r e => (hr r e).1), Boxed.step h.2.1 hg (fun r e => (hr r e).2), Boxed.step h.2.2.1 hg (fun r e => (hr r e).2), h.2.2.2⟩) ⟨Below.refl _ _, fun n hn => by cases hn⟩
    (fun x => { tmps := #[.pointer (some ⟨gd, 0, none⟩), .int .i64 (from_ : Int), .int .i64 (many : Int), undef, undef, undef, .pointer (some ⟨r0, 0, none⟩), .pointer (some ⟨r0 + 1, 0, none⟩), .pointer (some ⟨r0 + 1 + 1 + 1, 0, none⟩), .int .i64 (x : Int), undef, .bool (decide ((N : Int) < 1)), .pointer (some ⟨gd, 0, none⟩), .int .i64 (N : Int), .bool (decide ((N : Int) < 1)), .bool (decide ((many : Int) < 1) || decide ((N : Int) - (from_ : Int) < (many : Int))), .int .i64 (from_ : Int), .bool false, .bool false, .int .i64 (many : Int), .bool (decide ((many : Int) < 1)), .bool (decide ((many : Int) < 1)), .bool (decide ((many : Int) < 1)), .int .i64 (many : Int), .pointer (some ⟨gd, 0, none⟩), .int .i64 (N : Int), .int .i64 (from_ : Int), .int .i64 ((N : Int) - (from_ : Int)), .bool (decide ((N : Int) - (from_ : Int) < (many : Int))), .bool (decide ((many : Int) < 1) || decide ((N : Int) - (from_ : Int) < (many : Int))), .pointer (some ⟨gd, 0, none⟩), .int .i64 (from_ : Int), .int .i64 (many : Int), .agg #[.pointer (some ⟨gd, 0, none⟩), .int .i64 (from_ : Int), .int .i64 (many : Int)], .agg #[.pointer (some ⟨gd, 0, none⟩), .int .i64 (from_ : Int), .int .i64 (many : Int), .slice none 0 0, .int .i64 0, .bool false], .pointer (some ⟨r0 + 1 + 1, 0, none⟩), .pointer (some ⟨r0 + 1 + 1, 0, none⟩), .tuple #[], .pointer (some ⟨r0 + 2, 0, none⟩), .func (.func 26) #[.pointer (some ⟨r0 + 2, 0, none⟩)] #[], .int .i64 (x : Int), undef, undef, undef, undef, undef, undef, undef, undef, undef, undef, undef, undef, undef], defers := [] }) ?assign ?body ?done ?stop
  case assign =>
    intro l2 x W K hK
    gi_wp2
    exact hK
  case body =>
    rintro l2 pre x W ⟨hbel, hpre5⟩ ⟨hxm, hux, hxn, hpre, hgd⟩
    have hz3 := H3.out.2.2.2.2.2.2.2.2.2
    have kp : ∀ y, y < r0 + 4 → W.heap[y]? = w3.heap[y]? := fun y hy => hbel.block y (by omega)
    have b0 : Boxed W r0 31 (.pointer none) := (kp _ (by omega)).trans H3.out.2.1
    have b1 : Boxed W (r0 + 1) 28 (.int .i64 0) := (kp _ (by omega)).trans H3.out.2.2.1
    have b3 : Boxed W (r0 + 3) 31 (.pointer (some ⟨r0 + 2, 0, none⟩)) := (kp _ (by omega)).trans H3.out.2.2.2.1
    have d0 := b0.cell
    have f0 := b0.frozen
    have d1 := b1.cell
    have f1 := b1.frozen
    have d3 : W.cell? ⟨r0 + 1 + 1 + 1, 0, none⟩ = some (.pointer (some ⟨r0 + 2, 0, none⟩)) := b3.cell
    have d4 : W.cell? ⟨r0 + 2, 4, none⟩ = some (.int .i64 (u : Int)) := by rw [cell_of_row _ (r0 + 2) 4 _ _ (0, 0) ((kp _ (by omega)).trans HT.out.2.2.2.2.2.1)]; rfl
    have hmem : x ∈ soils T u many := soils_mem.2 ⟨hxm, hux, hxn⟩
    have HB := Lib.hid (And.intro hbel (And.intro hpre5 (And.intro hgd (And.intro hmem (And.intro b0 b1)))))
    clear hbel hpre5 hgd hmem b0 b1 b3 kp hxn hpre oG
    by_cases h5 : u + 5 ≤ x
    · have hki : (u : Int) + 5 ≤ (x : Int) := by omega
      gi_wp2
      have k1 := (KeepsOthers.setCell W ⟨r0, 0, none⟩ (.pointer none)).trans (KeepsOthers.setCell (W.setCell ⟨r0, 0, none⟩ (.pointer none)) ⟨r0 + 1, 0, none⟩ (.int .i64 4))
      have e0 : Boxed ((W.setCell ⟨r0, 0, none⟩ (.pointer none)).setCell ⟨r0 + 1, 0, none⟩ (.int .i64 4)) r0 31 (.pointer none) := (Below.heap_setCell _ _ _ _ (by show r0 ≠ r0 + 1; omega)).trans (Boxed.set _ HB.out.2.2.2.2.1)
      have e1 : Boxed ((W.setCell ⟨r0, 0, none⟩ (.pointer none)).setCell ⟨r0 + 1, 0, none⟩ (.int .i64 4)) (r0 + 1) 28 (.int .i64 4) := Boxed.set _ ((Below.heap_setCell _ _ _ _ (by show r0 + 1 ≠ r0; omega)).trans HB.out.2.2.2.2.2)
      exact ⟨k1.from _, ((But.of_below HB.out.1).set 0 _ (fun _ => .inl rfl)).set 0 _ (fun _ => .inr rfl), e0, e1, x, HB.out.2.2.2.1, h5⟩
    · have hki : ¬ (u : Int) + 5 ≤ (x : Int) := by omega
      gi_wp2
      exact ⟨KeepsFrom.refl _ _, KeepT.refl _ _, HB.out.2.2.1, HB.out.1, fun n hn => by
        rcases List.mem_append.1 hn with e | e
        · have := HB.out.2.1 n e; omega
        · rw [List.mem_singleton.1 e]; omega⟩
  case done =>
    rintro D ys W hD rfl ⟨hbel, h5⟩ hK
    have hz3 := H3.out.2.2.2.2.2.2.2.2.2
    have hh := H3.out.1.below hbel
    have CC := clean_in (m := ⟨st, found T, false⟩) T hh H3.out.2.2.2.2.2.2.2.1 H.out.2.2.1
    have hus := HT.out.2.2.2.2.2.2
    rw [hus] at CC
    obtain ⟨⟨z, st2⟩, hz2⟩ : ∃ r, st.wipes from_ (soils T u many) = r := ⟨_, rfl⟩
    rw [hz2] at CC
    have kp : ∀ y, y < r0 + 4 → W.heap[y]? = w3.heap[y]? := fun y hy => hbel.block y (by omega)
    have b0 : Boxed W r0 31 (.pointer none) := (kp _ (by omega)).trans H3.out.2.1
    have b1 : Boxed W (r0 + 1) 28 (.int .i64 0) := (kp _ (by omega)).trans H3.out.2.2.1
    have b3 : Boxed W (r0 + 3) 31 (.pointer (some ⟨r0 + 2, 0, none⟩)) := (kp _ (by omega)).trans H3.out.2.2.2.1
    have d3 : W.cell? ⟨r0 + 1 + 1 + 1, 0, none⟩ = some (.pointer (some ⟨r0 + 2, 0, none⟩)) := b3.cell
    have hnot : ¬ st.tooFar from_ many := by
      unfold St.tooFar
      rw [H3.out.2.2.2.2.2.2.2.1, hus]
      exact fun ⟨n, h1, h2⟩ => h5 n h1 h2
    have hop : st.opens from_ many = (z, st2) := by
      unfold St.opens
      rw [H3.out.2.2.2.2.2.2.2.1, hus]
      exact hz2
    have hfo : st.foundIn from_ many = found T := by unfold St.foundIn; rw [H3.out.2.2.2.2.2.2.2.1]
    have HD := Lib.hid (And.intro hbel (And.intro hK (And.intro hD (And.intro b0 (And.intro b1 (And.intro b3 (And.intro hnot (And.intro hop hfo))))))))
    have HCC := Lib.hid CC
    clear hbel hK hD b0 b1 b3 hnot hop hfo hh CC h5 hus hz2 kp oG
    have hall : ∀ w5, Went W gd (r0 + 2) from_ many F' G' ⟨st2, found T, false⟩ w5 → (w5.cell? ⟨r0, 0, none⟩ = some (.pointer none) ∧ w5.frozen? ⟨r0, 0, none⟩ = false ∧ w5.cell? ⟨r0 + 1, 0, none⟩ = some (.int .i64 0) ∧ w5.frozen? ⟨r0 + 1, 0, none⟩ = false ∧ w5.cell? ⟨r0 + 1 + 1 + 1, 0, none⟩ = some (.pointer (some ⟨r0 + 2, 0, none⟩))) ∧
        ∃ F2 G2, (∀ (v6 : Value) (v7 : Value), ∃ W6, W6 = ((w5.setCell ⟨r0, 0, none⟩ v6).setCell ⟨r0 + 1, 0, none⟩ v7).putObj D (.deferred none) ∧ ((w5.setCell ⟨r0, 0, none⟩ v6).setCell ⟨r0 + 1, 0, none⟩ v7).heap[D]? = some (.deferred (some [])) ∧
          W6.cell? ⟨r0, 0, none⟩ = some v6 ∧ W6.cell? ⟨r0 + 1, 0, none⟩ = some v7 ∧ Held_ W6 gd (r0 + 2) from_ many ⟨st2, found T, false⟩ F2 G2 ∧ But F w W6) ∧ (∀ x, F2 x → F x ∨ w.heap.size ≤ x) ∧ ∀ x, G2 x → w.heap.size ≤ x := fun w5 hw5 => by
      obtain ⟨F2, G2, hh5, hb5, hf5, hg5⟩ := hw5
      have hF := H.out.2.2.2.2.1
      have hF' := H3.out.2.2.2.2.1
      have hG' := H3.out.2.2.2.2.2.1
      have hWs := HD.out.1.size
      have hnS : ∀ y, y < W.heap.size → y ≠ r0 + 2 → (y < r0 + 4 ∧ r0 ≤ y ∨ w3.heap.size ≤ y) → ¬ (F' y ∨ G' y) := fun y hy h2 h3 e => by
        rcases e with e | e
        · have h4 := hF' y e
          rcases h4.2 with k | k
          · have := hF y k; omega
          · omega
        · have h4 := hG' y e
          omega
      have hDl := (Array.getElem?_eq_some_iff.1 HD.out.2.1).1
      have kp5 : ∀ y, y < W.heap.size → y ≠ r0 + 2 → (y < r0 + 4 ∧ r0 ≤ y ∨ w3.heap.size ≤ y) → w5.heap[y]? = W.heap[y]? := fun y hy h2 h3 => hb5.block y hy (hnS y hy h2 h3)
      have hDr := HD.out.2.2.1
      have b0 : Boxed w5 r0 31 (.pointer none) := (kp5 _ (by omega) (by omega) (by omega)).trans HD.out.2.2.2.1
      have b1 : Boxed w5 (r0 + 1) 28 (.int .i64 0) := (kp5 _ (by omega) (by omega) (by omega)).trans HD.out.2.2.2.2.1
      have b3 : Boxed w5 (r0 + 3) 31 (.pointer (some ⟨r0 + 2, 0, none⟩)) := (kp5 _ (by omega) (by omega) (by omega)).trans HD.out.2.2.2.2.2.1
      have hK5 : w5.heap[D]? = some (.deferred (some [])) := (kp5 _ hDl (by omega) (by omega)).trans HD.out.2.1
      have hn2 : ∀ y, (F2 y ∨ G2 y) → y ≠ r0 ∧ y ≠ r0 + 1 ∧ y ≠ D := fun y hy => by
        have h4 : (F' y ∨ G' y) ∨ W.heap.size ≤ y := by
          rcases hy with e | e
          · exact (hf5 y e).imp .inl id
          · exact (hg5 y e).imp .inr id
        rcases h4 with k | k
        · exact ⟨fun e => hnS y (by omega) (by omega) (by omega) k, fun e => hnS y (by omega) (by omega) (by omega) k, fun e => hnS y (by omega) (by omega) (by omega) k⟩
        · exact ⟨by omega, by omega, by omega⟩
      have hend : ∀ (v6 : Value) (v7 : Value), ∃ W6, W6 = ((w5.setCell ⟨r0, 0, none⟩ v6).setCell ⟨r0 + 1, 0, none⟩ v7).putObj D (.deferred none) ∧ ((w5.setCell ⟨r0, 0, none⟩ v6).setCell ⟨r0 + 1, 0, none⟩ v7).heap[D]? = some (.deferred (some [])) ∧
          W6.cell? ⟨r0, 0, none⟩ = some v6 ∧ W6.cell? ⟨r0 + 1, 0, none⟩ = some v7 ∧ Held_ W6 gd (r0 + 2) from_ many ⟨st2, found T, false⟩ F2 G2 ∧ But F w W6 := fun v6 v7 => by
        have bt : But (fun x => x = r0 ∨ x = r0 + 1 ∨ x = D) w5 (((w5.setCell ⟨r0, 0, none⟩ v6).setCell ⟨r0 + 1, 0, none⟩ v7).putObj D (.deferred none)) :=
          ((((But.refl _ w5).set 0 v6 (fun _ => .inl rfl)).set 0 v7 (fun _ => .inr (.inl rfl)))).next (T := fun x => x = D) ⟨rfl, rfl, rfl, by simp, fun b hb hn => World.putObj_heap_other hn⟩ (fun x _ e => .inr (.inr e))
        have e0 : Boxed (((w5.setCell ⟨r0, 0, none⟩ v6).setCell ⟨r0 + 1, 0, none⟩ v7).putObj D (.deferred none)) r0 31 v6 := (World.putObj_heap_other (by omega)).trans ((Below.heap_setCell _ _ _ _ (by show r0 ≠ r0 + 1; omega)).trans (Boxed.set _ b0))
        have e1 : Boxed (((w5.setCell ⟨r0, 0, none⟩ v6).setCell ⟨r0 + 1, 0, none⟩ v7).putObj D (.deferred none)) (r0 + 1) 28 v7 := (World.putObj_heap_other (by omega)).trans (Boxed.set _ ((Below.heap_setCell _ _ _ _ (by show r0 + 1 ≠ r0; omega)).trans b1))
        have hbw := (((H3.out.2.2.2.2.2.2.1.trans (But.of_below HD.out.1)).next hb5 (fun x hx e => by
          rcases e with e | e
          · exact (hF' x e).2.elim id (fun k => by omega)
          · have := (hG' x e).2; omega))).next bt (fun x hx e => by omega)
        refine ⟨_, rfl, ?_, e0.cell, e1.cell, ⟨hh5.d.but bt (fun x hx e => ?_), hh5.s.but bt (fun x hx e => ?_), hh5.ap, hh5.fits⟩, hbw⟩
        · rw [Below.heap_setCell _ _ _ _ (by show D ≠ r0 + 1; omega), Below.heap_setCell _ _ _ _ (by show D ≠ r0; omega)]
          exact hK5
        · have := hn2 x (.inl hx); omega
        · have := hn2 x (.inr hx); omega
      have hF2w : ∀ x, F2 x → F x ∨ w.heap.size ≤ x := fun x hx => (hf5 x hx).elim (fun k => (hF' x k).2.imp id (fun e => by omega)) (fun k => .inr (by omega))
      have hG2w : ∀ x, G2 x → w.heap.size ≤ x := fun x hx => (hg5 x hx).elim (fun k => by have := (hG' x k).2; omega) (fun k => by omega)
      exact ⟨⟨b0.cell, b0.frozen, b1.cell, b1.frozen, b3.cell⟩, F2, G2, hend, hF2w, hG2w⟩
    have HE := Lib.hid hall
    clear hall
    by_cases hz : z = 0
    · subst hz
      gi_wp2_with (first
        | (refine ⟨trivial, ?_⟩; gi_at_call 27; refine (callsIn_wide.2 ((callsIn_wide (n := 4)).1 HCC.out)).mono ?_; rintro e w5 ⟨rfl, hw5⟩; obtain ⟨⟨d0, f0, d1, f1, d5⟩, F2, G2, hend, hF2w, hG2w⟩ := HE.out w5 hw5; have HW5 := Lib.hid (And.intro hend (And.intro hF2w hG2w)); clear hend hF2w hG2w hw5))
      obtain ⟨W6, hW6, hKd, c6, c7, hh6, hb6⟩ := HW5.out.1 (.pointer (some ⟨r0 + 2, 0, none⟩)) (.int .i64 0)
      rw [hW6] at c6 c7 hh6 hb6
      refine ⟨by simp, .inl ⟨_, _, rfl, run_takeDeferred hKd, ?_⟩⟩
      refine ⟨.tuple #[.pointer (some ⟨r0 + 2, 0, none⟩), .int .i64 0], by simp [results, go_sem, c6, c7], .inr (.inr ⟨HD.out.2.2.2.2.2.2.1, by rw [HD.out.2.2.2.2.2.2.2.1], r0 + 2, F2, G2, rfl, ?_, hb6, HW5.out.2.1, HW5.out.2.2⟩)⟩
      rw [HD.out.2.2.2.2.2.2.2.1, HD.out.2.2.2.2.2.2.2.2]
      exact hh6
    · have hzi : (z != 0) = true := by simpa using hz
      gi_wp2_with (first
        | (refine ⟨trivial, ?_⟩; gi_at_call 27; refine (callsIn_wide.2 ((callsIn_wide (n := 4)).1 HCC.out)).mono ?_; rintro e w5 ⟨rfl, hw5⟩; obtain ⟨⟨d0, f0, d1, f1, d5⟩, F2, G2, hend, hF2w, hG2w⟩ := HE.out w5 hw5; have HW5 := Lib.hid (And.intro hend (And.intro hF2w hG2w)); clear hend hF2w hG2w hw5))
      obtain ⟨W6, hW6, hKd, c6, c7, hh6, hb6⟩ := HW5.out.1 (.pointer none) (.int .i64 z)
      rw [hW6] at c6 c7 hh6 hb6
      refine ⟨by simp, .inl ⟨_, _, rfl, run_takeDeferred hKd, ?_⟩⟩
      refine ⟨.tuple #[.pointer none, .int .i64 z], by simp [results, go_sem, c6, c7], .inr (.inl ⟨HD.out.2.2.2.2.2.2.1, by rw [HD.out.2.2.2.2.2.2.2.1]; exact hz, by rw [HD.out.2.2.2.2.2.2.2.1], ?_⟩)⟩
      rw [HD.out.2.2.2.2.2.2.2.1]
      exact ⟨F2, hh6.d, hb6, HW5.out.2.1⟩
  case stop =>
    rintro D pre W hD _ ⟨hbt, h0, h1, hfar⟩ hK
    have hz3 := H3.out.2.2.2.2.2.2.2.2.2
    have hDr : ∀ y : Nat, y < r0 + 4 → y ≠ D := fun y hy => by omega
    have c6 : (W.putObj D (.deferred none)).cell? ⟨r0, 0, none⟩ = some (.pointer none) := by
      have : Boxed (W.putObj D (.deferred none)) r0 31 (.pointer none) := (World.putObj_heap_other (hDr r0 (by omega))).trans h0
      exact this.cell
    have c7 : (W.putObj D (.deferred none)).cell? ⟨r0 + 1, 0, none⟩ = some (.int .i64 4) := by
      have : Boxed (W.putObj D (.deferred none)) (r0 + 1) 28 (.int .i64 4) := (World.putObj_heap_other (hDr _ (by omega))).trans h1
      exact this.cell
    have bt : But (fun x => x = D) W (W.putObj D (.deferred none)) := ⟨rfl, rfl, rfl, by simp, fun b hb hn => World.putObj_heap_other hn⟩
    have hac : Acted w gd F st (W.putObj D (.deferred none)) := by
      have hF := H.out.2.2.2.2.1
      refine ⟨F', (H3.out.1.d.but hbt (fun x hx e => ?_)).but bt (fun x hx e => ?_), ?_, fun x hx => ?_⟩
      · have h2 := (H3.out.2.2.2.2.1 x hx).2
        rcases h2 with k | k
        · have := hF x k; omega
        · omega
      · have := (H3.out.2.2.2.2.1 x hx).1; omega
      · exact (H3.out.2.2.2.2.2.2.1.next hbt (fun x hx e => by omega)).next bt (fun x hx e => by omega)
      · exact (H3.out.2.2.2.2.1 x hx).2.imp id (fun k => by omega)
    have HF := Lib.hid (And.intro hac hfar)
    clear hac hbt h0 h1 hfar bt hDr
    gi_wp2
    refine ⟨by simp, .inl ⟨_, _, rfl, run_takeDeferred hK, ?_⟩⟩
    refine ⟨.tuple #[.pointer none, .int .i64 4], by simp [results, go_sem, c6, c7], .inl ⟨?_, rfl, HF.out.1⟩⟩
    unfold St.tooFar
    rw [H3.out.2.2.2.2.2.2.2.1, HT.out.2.2.2.2.2.2]
    exact HF.out.2

end Go.Proofs.YtjkohceigdfmjaaDoor

/-
  A store whose disk lets all be: what an Add leaves; what a region of noughts is.
-/
namespace Go.Proofs.YtjkohceigdfmjaaDoor

def setAll (R : List (List Nat)) (k : Nat) : List (List Nat) → List (List Nat)
  | [] => R
  | x :: l => setAll (R.set k x) (k + 1) l
theorem setAll_length (R : List (List Nat)) (k : Nat) (L : List (List Nat)) : (setAll R k L).length = R.length := by
  induction L generalizing R k with
  | nil => rfl
  | cons x L ih => rw [setAll, ih, List.length_set]
theorem setAll_cat (A B L : List (List Nat)) (h : L.length ≤ B.length) : setAll (A ++ B) A.length L = A ++ (L ++ B.drop L.length) := by
  induction L generalizing A B with
  | nil => simp [setAll]
  | cons x L ih =>
    obtain ⟨b, B, rfl⟩ : ∃ b C, B = b :: C := by
      cases B with
      | nil => simp at h
      | cons b C => exact ⟨b, C, rfl⟩
    have e : (A ++ b :: B).set A.length x = (A ++ [x]) ++ B := by
      rw [List.set_append_right _ _ (Nat.le_refl _), Nat.sub_self, List.set_cons_zero, List.append_assoc]; rfl
    rw [setAll, e, show A.length + 1 = (A ++ [x]).length by simp, ih _ _ (by simp at h; omega), List.append_assoc]
    simp
theorem region_set {R : List (List Nat)} {from_ many i : Nat} {x : List Nat} : regionL (R.set (from_ + i) x) from_ many = (regionL R from_ many).set i x := by
  unfold regionL
  rw [List.drop_set, if_neg (by omega), show from_ + i - from_ = i by omega, List.take_set]
theorem region_setAll {R : List (List Nat)} {from_ many i : Nat} {L : List (List Nat)} : regionL (setAll R (from_ + i) L) from_ many = setAll (regionL R from_ many) i L := by
  induction L generalizing R i with
  | nil => rfl
  | cons x L ih => rw [setAll, setAll, show from_ + i + 1 = from_ + (i + 1) by omega, ih, region_set]

theorem pad_sec {x : List Nat} (h : Sec x) : pad x = x := by unfold pad; rw [h.1]; simp
section
variable {s : St}
theorem burnt_free (h : s.lets = -1) : s.burnt = s := by unfold St.burnt; rw [if_neg (by rw [h]; decide), if_pos h]
theorem sc_free (h : s.lets = -1) : s.sc = 0 := by unfold St.sc; rw [if_neg (by rw [h]; decide)]
theorem sn_free (h : s.lets = -1) : s.sn = ⟨s.read, [], -1, s.blown⟩ := by
  unfold St.sn; rw [if_neg (by rw [h]; decide), burnt_free h]; unfold St.settled; rw [h]
theorem wn_free (h : s.lets = -1) {k : Nat} {x : List Nat} (hx : Sec x) : s.wn k x = ⟨s.sure, s.waits ++ [(k, x)], -1, s.blown⟩ := by
  unfold St.wn; rw [if_neg (by rw [h]; decide)]; unfold St.wrote; rw [burnt_free h, pad_sec hx]; show (⟨s.sure, s.waits ++ [(k, x)], s.lets, s.blown⟩ : St) = _; rw [h]
end
theorem puts_free (L : List (List Nat)) (s : St) (k : Nat) (h : s.lets = -1) (hL : ∀ x ∈ L, Sec x) : (s.puts k L).1 = 0 ∧ (s.puts k L).2.lets = -1 ∧ (s.puts k L).2.blown = s.blown ∧ (s.puts k L).2.read = setAll s.read k L := by
  induction L generalizing s k with
  | nil => exact ⟨rfl, h, rfl, rfl⟩
  | cons x L ih =>
    have hw : s.wrote k x = ⟨s.sure, s.waits ++ [(k, x)], -1, s.blown⟩ := by unfold St.wrote; rw [burnt_free h, pad_sec (hL x (by simp))]; show (⟨s.sure, s.waits ++ [(k, x)], s.lets, s.blown⟩ : St) = _; rw [h]
    rw [St.puts, if_neg (by rw [h]; decide), hw]
    have := ih ⟨s.sure, s.waits ++ [(k, x)], -1, s.blown⟩ (k + 1) rfl (fun y hy => hL y (by simp [hy]))
    refine ⟨this.1, this.2.1, this.2.2.1, ?_⟩
    rw [this.2.2.2, setAll]
    congr 1
    show settle s.sure (s.waits ++ [(k, x)]) = _
    rw [settle_snoc]; rfl

/-- What an Add leaves, where all is let be. -/
theorem add_free {m : Sm} {from_ many : Nat} {xs : List Nat} (h : m.st.lets = -1) (hd : m.down = false) (h1 : xs.length ≤ 256) (hx : ∀ x ∈ xs, x < 256) (h2 : secs xs.length ≤ many - usedL m.l) :
    m.add from_ many xs = (0, ⟨⟨setAll m.st.read (from_ + usedL m.l + 1) (fsecs (m.l.length + 1) xs).tail, [(from_ + usedL m.l, (fsecs (m.l.length + 1) xs).headD [])], -1, m.st.blown⟩, m.l ++ [xs], false⟩) := by
  obtain ⟨a, ha⟩ : ∃ a, from_ + usedL m.l = a := ⟨_, rfl⟩
  obtain ⟨L, hL⟩ : ∃ L, fsecs (m.l.length + 1) xs = L := ⟨_, rfl⟩
  have hLs : ∀ s ∈ L, Sec s := hL ▸ fsecs_sec _ _ hx
  have hLl : L.length = secs xs.length := hL ▸ fsecs_length _ _
  have hp := secs_pos xs.length
  obtain ⟨y, T, rfl⟩ : ∃ y T, L = y :: T := by
    cases L with
    | nil => simp at hLl; omega
    | cons y T => exact ⟨y, T, rfl⟩
  have hy := hLs y (by simp)
  have key : runs (addSteps a (y :: T)) m.st = (0, ⟨setAll m.st.read (a + 1) T, [(a, y)], -1, m.st.blown⟩) := by
    have s1 : stepS m.st = (0, ⟨m.st.read, [], -1, m.st.blown⟩) := by unfold stepS; rw [sc_free h, sn_free h]
    unfold addSteps
    by_cases ht : T = []
    · subst ht
      rw [if_pos (show [y].length = 1 from rfl)]
      have s2 : stepW a y (⟨m.st.read, [], -1, m.st.blown⟩ : St) = (0, ⟨m.st.read, [(a, y)], -1, m.st.blown⟩) := by unfold stepW; rw [sc_free rfl, wn_free rfl hy]; rfl
      show runs [stepS, stepW a y] m.st = _
      rw [runs, s1, if_pos rfl, runs, s2, if_pos rfl]
      rfl
    · rw [if_neg (by simp [ht])]
      have hpu := puts_free T ⟨m.st.read, [], -1, m.st.blown⟩ (a + 1) rfl (fun z hz => hLs z (by simp [hz]))
      obtain ⟨⟨z, st2⟩, hz⟩ : ∃ r, (⟨m.st.read, [], -1, m.st.blown⟩ : St).puts (a + 1) T = r := ⟨_, rfl⟩
      rw [hz] at hpu
      obtain ⟨rfl, h2l, h2b, h2r⟩ := hpu
      have s2 : stepO (a + 1) T (⟨m.st.read, [], -1, m.st.blown⟩ : St) = (0, st2) := hz
      have s3 : stepS st2 = (0, ⟨setAll m.st.read (a + 1) T, [], -1, m.st.blown⟩) := by
        unfold stepS
        rw [sc_free h2l, sn_free h2l]
        have e1 : st2.read = setAll m.st.read (a + 1) T := h2r
        have e2 : st2.blown = m.st.blown := h2b
        rw [e1, e2]
      have s4 : stepW a y (⟨setAll m.st.read (a + 1) T, [], -1, m.st.blown⟩ : St) = (0, ⟨setAll m.st.read (a + 1) T, [(a, y)], -1, m.st.blown⟩) := by unfold stepW; rw [sc_free rfl, wn_free rfl hy]; rfl
      show runs [stepS, stepO (a + 1) T, stepS, stepW a y] m.st = _
      rw [runs, s1, if_pos rfl, runs, s2, if_pos rfl, runs, s3, if_pos rfl, runs, s4, if_pos rfl]
      rfl
  unfold Sm.add
  rw [if_neg (by omega), if_neg (by omega), if_neg (by rw [hd]; decide), ha, hL, key]
  rfl

theorem zeros_region {n from_ many : Nat} (h : from_ + many ≤ n) : regionL (zeros n) from_ many = List.replicate many nought := by
  unfold regionL zeros nought
  rw [List.drop_replicate, List.take_replicate, Nat.min_eq_left (by omega)]
theorem soils_noughts (l : List (List Nat)) (r many : Nat) : soils (lsecs 0 l ++ List.replicate r nought) (usedL l) many = [] ∨ many > usedL l + r := by
  by_cases h : many ≤ usedL l + r
  · left
    apply List.eq_nil_iff_forall_not_mem.2
    intro n hn
    obtain ⟨h1, h2, h3⟩ := soils_mem.1 hn
    apply h3
    rw [List.getElem?_append_right (by rw [lsecs_length]; exact h2), lsecs_length, List.getElem?_replicate, if_pos (by omega)]
  · right; omega
theorem found_noughts {l : List (List Nat)} (r : Nat) (hl : ∀ b ∈ l, b.length ≤ 256) (hk : l.length < 18446744073709551615) : found (lsecs 0 l ++ List.replicate r nought) = l := found_of hl hk (next_noughts _ _)
/-- Add, as the region sees it. -/
theorem add_region {l : List (List Nat)} {r : Nat} {xs : List Nat} (h : secs xs.length ≤ r) :
    (setAll (lsecs 0 l ++ List.replicate r nought) (usedL l + 1) (fsecs (l.length + 1) xs).tail).set (usedL l) ((fsecs (l.length + 1) xs).headD []) = lsecs 0 (l ++ [xs]) ++ List.replicate (r - secs xs.length) nought ∧
    setAll (lsecs 0 l ++ List.replicate r nought) (usedL l + 1) (fsecs (l.length + 1) xs).tail = lsecs 0 l ++ nought :: ((fsecs (l.length + 1) xs).tail ++ List.replicate (r - secs xs.length) nought) := by
  have hLl : (fsecs (l.length + 1) xs).length = secs xs.length := fsecs_length _ _
  have hp := secs_pos xs.length
  have hsn := lsecs_snoc 0 l xs
  rw [Nat.zero_add] at hsn
  rw [hsn]
  obtain ⟨L, hL⟩ : ∃ L, fsecs (l.length + 1) xs = L := ⟨_, rfl⟩
  rw [hL] at hLl ⊢
  obtain ⟨y, T, rfl⟩ : ∃ y T, L = y :: T := by
    cases L with
    | nil => simp at hLl; omega
    | cons y T => exact ⟨y, T, rfl⟩
  rw [List.length_cons] at hLl
  obtain ⟨q, rfl⟩ : ∃ q, r = q + 1 := ⟨r - 1, by omega⟩
  have e1 : lsecs 0 l ++ List.replicate (q + 1) nought = (lsecs 0 l ++ [nought]) ++ List.replicate q nought := by rw [List.replicate_succ, List.append_assoc]; rfl
  have e2 : setAll (lsecs 0 l ++ List.replicate (q + 1) nought) (usedL l + 1) T = lsecs 0 l ++ nought :: (T ++ List.replicate (q + 1 - secs xs.length) nought) := by
    rw [e1, show usedL l + 1 = (lsecs 0 l ++ [nought]).length by rw [List.length_append, lsecs_length]; rfl, setAll_cat _ _ _ (by rw [List.length_replicate]; omega), List.drop_replicate, List.append_assoc, show q - T.length = q + 1 - secs xs.length by omega]
    rfl
  refine ⟨?_, e2⟩
  show (setAll _ _ T).set (usedL l) y = _
  rw [e2, List.set_append_right _ _ (by rw [lsecs_length]; exact Nat.le_refl _), lsecs_length, Nat.sub_self, List.set_cons_zero, List.append_assoc]
  rfl

end Go.Proofs.YtjkohceigdfmjaaDoor

/-
  disks: Fail.
-/
namespace Go.Proofs.YtjkohceigdfmjaaDoor
open Go.RowKit

/-- '.slice A n c' reads as these bools. -/
structure InB (w : World) (A : Option Addr) (n : Nat) (ks : List Bool) : Prop where
  len : ks.length = n
  rd : ∀ j x, ks[j]? = some x → ∃ ad, A = some ad ∧ w.cell? (ad.add j) = some (.bool x)
theorem InB.below {w w' : World} {A : Option Addr} {n : Nat} {ks : List Bool} (h : InB w A n ks) (hb : Below w.heap.size w w') : InB w' A n ks := ⟨h.len, fun j x hx => by
  obtain ⟨ad, e, hc⟩ := h.rd j x hx
  exact ⟨ad, e, (hb.cell (World.block_lt_of_cell? w _ hc)).trans hc⟩⟩
theorem InB.none_ (w : World) (A : Option Addr) : InB w A 0 [] := ⟨rfl, fun j x h => by simp at h⟩

/-- The writes that are kept, of the first j. -/
def pick (ws : List (Nat × List Nat)) (ks : List Bool) (j : Nat) : List (Nat × List Nat) := (((ws.zip ks).take j).filter (·.2)).map (·.1)
theorem pick_step {ws : List (Nat × List Nat)} {ks : List Bool} {j : Nat} {x : Nat × List Nat} {b : Bool} (hx : ws[j]? = some x) (hb : ks[j]? = some b) : pick ws ks (j + 1) = pick ws ks j ++ (if b then [x] else []) := by
  have hz : (ws.zip ks)[j]? = some (x, b) := by
    rw [List.getElem?_zip_eq_some]
    exact ⟨hx, hb⟩
  rw [pick, pick, List.take_add_one, hz]
  cases b <;> simp
/-- Those that are kept. -/
def kept (ws : List (Nat × List Nat)) (ks : List Bool) : List (Nat × List Nat) := pick ws ks (min ws.length ks.length)
theorem pick_mem {ws : List (Nat × List Nat)} {ks : List Bool} {j : Nat} {x : Nat × List Nat} (h : x ∈ pick ws ks j) : x ∈ ws := by
  obtain ⟨y, hy, rfl⟩ := List.mem_map.1 h
  have h2 := List.mem_of_mem_take (List.mem_filter.1 hy).1
  exact (List.of_mem_zip h2).1

set_option maxRecDepth 100000 in
set_option maxHeartbeats 2000000 in
theorem fail_any {w : World} {g : Nat} {F : Nat → Prop} {s : St} (A : Option Addr) (n c : Nat) (ks : List Bool) (hk : InB w A n ks) (h : Disk w g F s) :
    Calls Tryd.prog 13 #[.pointer (some ⟨g, 0, none⟩), .slice A n c] w fun e w' => ∃ g', e = .returned (.tuple #[.pointer (some ⟨g', 0, none⟩), .int .i64 0]) ∧ Made w (fresh (settle s.sure (kept s.waits ks))) g' w' := by
  have hd := isThere_yes h
  obtain ⟨ok, ⟨a, b, ca, cb, v, h, hf⟩, hF⟩ := h
  obtain ⟨Av, cv, rfl, hnv, hAv, hcm⟩ := row_form h.row
  have C := clone_any h.sure ok.sec ok.pos ok.le
  have c0 := h.c0
  obtain ⟨m, hm⟩ : ∃ m, s.waits.length = m := ⟨_, rfl⟩
  rw [hm] at h hnv hAv
  have c2 := h.c2
  have H := Lib.hid (And.intro ok (And.intro h (And.intro hk (And.intro hAv (And.intro hm (And.intro hnv hcm))))))
  clear ok h hf hF hk hAv hm
  go_enter Tryd.func13, Tryd.ntmps13
  go_wp2_with fail
  refine hd.mono ?_
  rintro e w1 ⟨rfl, rfl⟩
  go_wp2_with fail
  refine C.mono ?_
  rintro e w1 ⟨y, cy, rfl, hR, hy, hb1⟩
  have c2' : w1.cell? ⟨g, 2, none⟩ = some (.slice Av m cv) := (hb1.cell H.out.2.1.lt).trans c2
  have H1 := Lib.hid (And.intro hR (And.intro hy hb1))
  clear hd C c0 c2 hR hy hb1
  obtain ⟨q, hq⟩ : ∃ q, min m n = q := ⟨_, rfl⟩
  have qm : q ≤ m := by omega
  have qn : q ≤ n := by omega
  have qc : q ≤ cv := by omega
  have hif : (if n < m then (n : Int) else (m : Int)) = (q : Int) := by split <;> omega
  have hqi : (q : Int) ≤ (cv : Int) := by omega
  go_wp2
  refine wp_region_still_lit (by kernel_rfl) (by kernel_rfl) ?_
  repeat still_step
  refine wpStill_nil ?_
  change Exit.then _ _ _ _ w1.drew
  have HQ := Lib.hid (And.intro hq (And.intro qm (And.intro qn qc)))
  have q63 : q ≤ 9223372036854775807 := by omega
  clear hif hqi c2' hq qm qc hnv hcm
  go_wp2
  go_loopw [31] (fun i wr => ∃ j : Nat, j ≤ q ∧ i = .int .i64 (j : Int) ∧ Hid (SecAt wr y cy (settle s.sure (pick s.waits ks j)) ∧ But (fun z => z = y) w1 wr)) (fun i _ => q - (intOf i).toNat)
  case atStart => exact ⟨0, Nat.zero_le _, rfl, Lib.hid ⟨by simpa [pick, settle] using H1.out.1.block (w' := w1.drew) rfl, (But.refl _ w1).drew⟩⟩
  case round =>
    obtain ⟨j, hj, rfl, hrel⟩ := hrel
    by_cases hlt : j < q
    · obtain ⟨gv, rfl⟩ := H.out.2.2.2.1 (by have := HQ.out.2.1; omega)
      obtain ⟨x, hx⟩ : ∃ x, s.waits[j]? = some x := ⟨_, List.getElem?_eq_getElem (by rw [H.out.2.2.2.2.1]; have := HQ.out.2.1; omega)⟩
      obtain ⟨kb, hkb⟩ : ∃ kb, ks[j]? = some kb := ⟨_, List.getElem?_eq_getElem (by rw [H.out.2.2.1.len]; omega)⟩
      obtain ⟨ad, rfl, hkc0⟩ := H.out.2.2.1.rd j kb hkb
      have hb1 := H1.out.2.2
      have hyw := H1.out.2.1
      have hbe : Below w.heap.size w wr := hb1.trans (hrel.out.2.below hb1.size (fun z hz => by rw [hz]; exact hyw))
      have hkc : wr.cell? (ad.add j) = some (.bool kb) := (hbe.cell (World.block_lt_of_cell? w _ hkc0)).trans hkc0
      have hws := H.out.1.wsec x (List.mem_of_getElem? hx)
      have hlw : gv < w.heap.size := own_lt H.out.2.1.row rfl
      have row : wr.ownsRow 0 80 65 (.slice (some ⟨gv, 0, none⟩) m cv) m (wcells s.waits).flatten := by
        have hr := H.out.2.1.row
        rw [H.out.2.2.2.2.1] at hr
        exact own_block hr (fun z hz => by cases hz; exact hbe.block gv hlw)
      have hwc := wcells_len (fun y hy => (H.out.1.wsec y hy).2)
      have hr := own_range row hwc (by rw [wcells, List.length_map]; exact H.out.2.2.2.2.1) (wcells_get hx)
      have hwl : (wcell x).length = 65 := hwc _ (List.mem_map.2 ⟨x, List.mem_of_getElem? hx, rfl⟩)
      have hk : x.1 < s.sure.length := hws.1
      have hki : (x.1 : Int) < (s.sure.length : Int) := by omega
      have hji : (j : Int) < (q : Int) := by omega
      have hjn : (j : Int) < (n : Int) := by omega
      have z1 := zeroWrite_run wr
      have hsA : (Tryd.prog.info? 80).map (·.size) = some (wcell x).toArray.size := by rw [List.size_toArray, hwl]; exact sizeWrite
      have hsB : zeroWrite.toArray.size = (wcell x).toArray.size := by rw [List.size_toArray, List.size_toArray, hwl]; rfl
      have HX := Lib.hid (And.intro hx (And.intro hws (And.intro hr (And.intro hwl (And.intro row (And.intro hsA (And.intro hsB (And.intro hkc (And.intro hkb hbe)))))))))
      clear hx hws hr hwl row hwc hsA hsB hkc hkb hkc0 hbe hb1 hyw
      go_upto_region 7 with (first
        | (with_reducible refine wpList_load_mid rfl 80 _ rfl gv (j * 65) rfl (wcell x) _ HX.out.2.2.1 Tryd.underlying80 rfl (by rw [HX.out.2.2.2.1]; exact sizeWrite) ?_)
        | (with_reducible refine wpList_store_fresh rfl wr 80 _ (wcell x).toArray _ _ rfl rfl rfl HX.out.2.2.2.2.2.1 HX.out.2.2.2.2.2.2.1 (all_oneCell_toArray (wcell_one x)) ?_))
      obtain ⟨W, hW⟩ : ∃ W, wr.alloc (Obj.cells (wcell x).toArray 80) = W := ⟨_, rfl⟩
      obtain ⟨B, hB⟩ : ∃ B, wr.heap.size = B := ⟨_, rfl⟩
      have hbW : Below wr.heap.size wr W := hW ▸ below_alloc wr _
      have hHW : W.heap[B]? = some (.cells (wcell x).toArray 80 (0, 0)) := by rw [← hW, ← hB]; exact World.alloc_heap_new wr _
      have cK : W.cell? (ad.add j) = some (.bool kb) := (hbW.cell (World.block_lt_of_cell? wr _ HX.out.2.2.2.2.2.2.2.1)).trans HX.out.2.2.2.2.2.2.2.1
      have cB : W.cell? ⟨B, 0, none⟩ = some (.int .i64 (x.1 : Int)) := by rw [cell_of_row _ B 0 _ _ (0, 0) hHW]; rfl
      have rB : W.rangeAt B 1 (bvs x.2) := fun i u hu => by
        rw [cell_of_row _ B (1 + i) _ _ (0, 0) hHW, Nat.add_comm 1 i, List.getElem?_toArray, wcell, List.getElem?_cons_succ]
        exact hu
      have hsec := hrel.out.1.below hbW
      have hlen : (settle s.sure (pick s.waits ks j)).length = s.sure.length := settle_length _ _
      have hstep := pick_step HX.out.1 HX.out.2.2.2.2.2.2.2.2.1
      have hsx : (bvs x.2).length = 64 := by rw [bvs_length, HX.out.2.1.2.1]
      have htA := hsec.there (k := x.1) (by rw [hlen]; exact hk)
      have hsC : (Tryd.prog.info? 73).map (·.size) = some (bvs x.2).length := by rw [hsx]; exact sizeSector
      have hsD : (Tryd.prog.info? 73).map (·.size) = some (bvs x.2).toArray.size := by rw [List.size_toArray]; exact hsC
      have htD : W.there y (x.1 * 64) (bvs x.2).toArray.size := by rw [List.size_toArray, hsx]; exact htA
      have HW := Lib.hid (And.intro rB (And.intro hbW (And.intro hsec (And.intro hlen (And.intro hstep (And.intro hsx (And.intro htD (And.intro hsC hsD))))))))
      rw [hB, hW]
      clear z1 hW rB hbW hHW hB hsec hlen hstep hsx htA hsC hsD htD
      cases kb
      · go_wp2
        go_roundw
        case rel =>
          refine ⟨j + 1, by omega, by go_num, Lib.hid ⟨?_, hrel.out.2.trans (But.of_below HW.out.2.1)⟩⟩
          rw [HW.out.2.2.2.2.1]
          simpa using HW.out.2.2.1
        case measure => simp [intOf]; omega
      · go_wp2_with (first
          | (with_reducible refine wpList_load_mid rfl 73 _ rfl B 1 rfl (bvs x.2) _ HW.out.1 Tryd.underlying73 rfl HW.out.2.2.2.2.2.2.2.1 ?_)
          | (with_reducible refine wpList_store_mid rfl 73 _ _ rfl y (x.1 * 64) (bvs x.2).toArray rfl rfl HW.out.2.2.2.2.2.2.1 HW.out.2.2.2.2.2.2.2.2 (all_oneCell_toArray (bvs_oneCell _)) ?_))
        have hnew := SecAt.set HW.out.2.2.1 (settle_sec H.out.1.sec (fun z hz => (H.out.1.wsec z (pick_mem hz)).2)) (k := x.1) (by rw [HW.out.2.2.2.1]; exact hk) HX.out.2.1.2.1
        have hbut := (hrel.out.2.trans (But.of_below HW.out.2.1)).grown (setCells_grown y (bvs x.2) W (x.1 * 64)) (fun z e _ => by injection e with e; exact e.symm)
        go_roundw
        case rel =>
          refine ⟨j + 1, by omega, by go_num, Lib.hid ⟨?_, hbut⟩⟩
          rw [HW.out.2.2.2.2.1]
          simpa [settle_snoc] using hnew
        case measure => simp [intOf]; omega
    · obtain rfl : j = q := by omega
      have hji : decide ((j : Int) < (j : Int)) = false := by simp
      have hs := hrel.out.1
      have hlen : (settle s.sure (pick s.waits ks j)).length = s.sure.length := settle_length _ _
      have hbe : Below w.heap.size w wr := H1.out.2.2.trans (hrel.out.2.below H1.out.2.2.size (fun z hz => by rw [hz]; exact H1.out.2.1))
      have C := diskOf_any hbe hs H1.out.2.1 (settle_sec H.out.1.sec (fun z hz => (H.out.1.wsec z (pick_mem hz)).2)) (by rw [hlen]; exact H.out.1.pos) (by rw [hlen]; exact H.out.1.le)
      rw [hlen] at C
      have hkq : pick s.waits ks j = kept s.waits ks := by rw [kept, H.out.2.2.2.2.1, H.out.2.2.1.len, HQ.out.1]
      rw [hkq] at C
      have HC := Lib.hid C
      clear C hs hlen hbe hkq
      go_wp2_with fail
      refine HC.out.mono ?_
      rintro e w2 ⟨g', rfl, hM⟩
      go_wp2
      go_ret2
      exact ⟨g', rfl, hM⟩

end Go.Proofs.YtjkohceigdfmjaaDoor

/-
  A region that holds records and noughts is opened.
-/
namespace Go.Proofs.YtjkohceigdfmjaaDoor
open Go.RowKit

theorem open_region {w : World} {gd from_ many r : Nat} {F : Nat → Prop} {st : St} {l : List (List Nat)} (E : Errs) (hE : ∀ W, But F w W → Laid W E) (h : Disk w gd F st) (h1 : 1 ≤ many) (hfit : from_ + many ≤ st.sure.length) (hw : st.waits.length ≤ 800000) (hl : st.lets = -1)
    (hb : ∀ b ∈ l, b.length ≤ 256) (hr : usedL l + r = many) (hreg : regionL st.read from_ many = lsecs 0 l ++ List.replicate r nought) :
    Calls Tryd.prog 10 #[.pointer (some ⟨gd, 0, none⟩), .int .i64 (from_ : Int), .int .i64 (many : Int)] w fun e w' => ∃ sb F' G', e = .returned (.tuple #[.pointer (some ⟨sb, 0, none⟩), .int .i64 0]) ∧
      Held_ w' gd sb from_ many ⟨⟨st.read, [], -1, st.blown⟩, l, false⟩ F' G' ∧ But F w w' ∧ (∀ x, F' x → F x ∨ w.heap.size ≤ x) ∧ ∀ x, G' x → w.heap.size ≤ x := by
  have hle := h.1.le
  have hfo : st.foundIn from_ many = l := by unfold St.foundIn; rw [hreg]; exact found_noughts r hb (by have := len_le_used l; omega)
  have hso : soils (regionL st.read from_ many) (usedL (found (regionL st.read from_ many))) many = [] := by
    have h2 : found (regionL st.read from_ many) = l := hfo
    rw [h2, hreg]
    rcases soils_noughts l r many with e | e
    · exact e
    · omega
  have hop : st.opens from_ many = (0, ⟨st.read, [], -1, st.blown⟩) := by
    unfold St.opens
    rw [hso]
    show runs [stepS] st = _
    rw [runs]
    have s1 : stepS st = (0, ⟨st.read, [], -1, st.blown⟩) := by unfold stepS; rw [sc_free hl, sn_free hl]
    rw [s1, if_pos rfl]
    rfl
  have hnot : ¬ st.tooFar from_ many := by unfold St.tooFar; rw [hso]; exact fun ⟨n, hn, _⟩ => by cases hn
  refine (callsIn_wide.1 (open_go E hE h h1 hfit hw)).mono ?_
  rintro e w' (⟨h3, _⟩ | ⟨_, h3, _⟩ | ⟨_, _, sb, F', G', he, hh, hbt, hf, hg⟩)
  · exact absurd h3 hnot
  · rw [hop] at h3; exact absurd rfl h3
  · rw [hop, hfo] at hh
    exact ⟨sb, F', G', he, hh, hbt, hf, hg⟩

/-- Open of what is no region. -/
theorem open_arg {w : World} {gd : Nat} {F : Nat → Prop} {st : St} {f m : Int} (h : Disk w gd F st) (h1 : 0 ≤ f) (h2 : 1 ≤ m) (h3 : (st.sure.length : Int) - f < m) (h4 : f ≤ 100000) :
    Calls Tryd.prog 10 #[.pointer (some ⟨gd, 0, none⟩), .int .i64 f, .int .i64 m] w fun e w' => e = .returned (.tuple #[.pointer none, .int .i64 1]) ∧ Below w.heap.size w w' := callsIn_wide.1 (open_arg_in h h1 h2 h3 h4)

end Go.Proofs.YtjkohceigdfmjaaDoor

/-
  A region behind a failure: records, then a first sector that was not made, the rest of its record, and noughts.
-/
namespace Go.Proofs.YtjkohceigdfmjaaDoor
open Go.RowKit

theorem found_soiled {l T : List (List Nat)} (r : Nat) (hl : ∀ b ∈ l, b.length ≤ 256) (hk : l.length < 18446744073709551615) : found (lsecs 0 l ++ nought :: (T ++ List.replicate r nought)) = l :=
  found_of hl hk (by rw [List.flatten_cons]; exact next_zero _ _)
/-- What is to be wiped lies near. -/
theorem soils_near {l T : List (List Nat)} {r many n : Nat} (hr : usedL l + 1 + T.length + r = many) (hn : n ∈ soils (lsecs 0 l ++ nought :: (T ++ List.replicate r nought)) (usedL l) many) : usedL l < n ∧ n ≤ usedL l + T.length := by
  obtain ⟨h1, h2, h3⟩ := soils_mem.1 hn
  rw [List.getElem?_append_right (by rw [lsecs_length]; exact h2), lsecs_length] at h3
  obtain ⟨d, hd⟩ : ∃ d, n - usedL l = d := ⟨_, rfl⟩
  rw [hd] at h3
  cases d with
  | zero => exact absurd rfl h3
  | succ d =>
    rw [List.getElem?_cons_succ] at h3
    refine ⟨by omega, ?_⟩
    by_cases h : d < T.length
    · omega
    · exfalso
      apply h3
      rw [List.getElem?_append_right (by omega), List.getElem?_replicate, if_pos (by omega)]

def setN (R : List (List Nat)) (from_ : Nat) : List Nat → List (List Nat)
  | [] => R
  | n :: L => setN (R.set (from_ + n) nought) from_ L
theorem pad_nil : pad [] = nought := by decide
theorem wn_nought {s : St} (h : s.lets = -1) {k : Nat} : (s.wn k []).lets = -1 ∧ (s.wn k []).blown = s.blown ∧ (s.wn k []).read = s.read.set k nought := by
  have e : s.wn k [] = s.wrote k [] := by unfold St.wn; rw [if_neg (by rw [h]; decide)]
  rw [e]
  refine ⟨?_, ?_, ?_⟩
  · unfold St.wrote; rw [burnt_free h]; exact h
  · unfold St.wrote; rw [burnt_free h]
  · rw [St.wrote_read, pad_nil]
theorem wipes_free (L : List Nat) (from_ : Nat) (s : St) (h : s.lets = -1) : s.wipes from_ L = (0, ⟨setN s.read from_ L, [], -1, s.blown⟩) := by
  unfold St.wipes wipeSteps
  induction L generalizing s with
  | nil =>
    show runs [stepS] s = _
    have s1 : stepS s = (0, ⟨s.read, [], -1, s.blown⟩) := by unfold stepS; rw [sc_free h, sn_free h]
    rw [runs, s1, if_pos rfl]
    rfl
  | cons n L ih =>
    have hw := wn_nought (s := s) h (k := from_ + n)
    have s1 : stepW (from_ + n) [] s = (0, s.wn (from_ + n) []) := by unfold stepW; rw [sc_free h]
    rw [List.map_cons, List.cons_append, runs, s1, if_pos rfl, ih _ hw.1, hw.2.1, hw.2.2]
    rfl

theorem setN_get (L : List Nat) (R : List (List Nat)) (f i : Nat) : (setN R f L)[i]? = if (∃ n ∈ L, f + n = i) ∧ i < R.length then some nought else R[i]? := by
  induction L generalizing R with
  | nil => rw [if_neg (by rintro ⟨⟨n, hn, _⟩, _⟩; cases hn)]; rfl
  | cons n L ih =>
    rw [setN, ih, List.length_set]
    by_cases h1 : (∃ m ∈ L, f + m = i) ∧ i < R.length
    · obtain ⟨⟨m, hm, e⟩, h2⟩ := h1
      rw [if_pos ⟨⟨m, hm, e⟩, h2⟩, if_pos ⟨⟨m, List.mem_cons_of_mem _ hm, e⟩, h2⟩]
    · rw [if_neg h1]
      by_cases h2 : f + n = i ∧ i < R.length
      · rw [if_pos ⟨⟨n, by simp, h2.1⟩, h2.2⟩, List.getElem?_set, if_pos h2.1, if_pos (by omega)]
      · rw [List.getElem?_set]
        by_cases h3 : f + n = i
        · rw [if_pos h3, if_neg (fun h => h2 ⟨h3, by omega⟩), if_neg (fun h => h2 ⟨h3, h.2⟩)]
          rw [List.getElem?_eq_none (by omega)]
        · rw [if_neg h3, if_neg]
          rintro ⟨⟨m, hm, e⟩, hlt⟩
          rcases List.mem_cons.1 hm with rfl | hm
          · exact h3 e
          · exact h1 ⟨⟨m, hm, e⟩, hlt⟩
theorem region_setN (L : List Nat) (R : List (List Nat)) (f k : Nat) : regionL (setN R f L) f k = setN (regionL R f k) 0 L := by
  induction L generalizing R with
  | nil => rfl
  | cons n L ih => rw [setN, ih, setN, region_set, Nat.zero_add]
/-- What is left of the region: the records, and noughts. -/
theorem wiped_region {l T : List (List Nat)} {r many : Nat} (hr : usedL l + 1 + T.length + r = many) :
    setN (lsecs 0 l ++ nought :: (T ++ List.replicate r nought)) 0 (soils (lsecs 0 l ++ nought :: (T ++ List.replicate r nought)) (usedL l) many) = lsecs 0 l ++ List.replicate (1 + T.length + r) nought := by
  obtain ⟨Z, hZ⟩ : ∃ Z, lsecs 0 l ++ nought :: (T ++ List.replicate r nought) = Z := ⟨_, rfl⟩
  have hlen : Z.length = many := by rw [← hZ, List.length_append, lsecs_length, List.length_cons, List.length_append, List.length_replicate]; omega
  rw [hZ]
  apply List.ext_getElem?
  intro i
  rw [setN_get]
  by_cases h : i < usedL l
  · have hne : ¬ ((∃ n ∈ soils Z (usedL l) many, 0 + n = i) ∧ i < Z.length) := by
      rintro ⟨⟨n, hn, e⟩, _⟩
      have := (soils_mem.1 hn).2.1
      omega
    rw [if_neg hne, ← hZ, List.getElem?_append_left (by rw [lsecs_length]; exact h), List.getElem?_append_left (by rw [lsecs_length]; exact h)]
  · rw [List.getElem?_append_right (by rw [lsecs_length]; omega), lsecs_length, List.getElem?_replicate]
    by_cases h2 : i < many
    · rw [if_pos (show i - usedL l < 1 + T.length + r by omega)]
      by_cases h3 : Z[i]? = some nought
      · split
        · rfl
        · exact h3
      · rw [if_pos ⟨⟨i, soils_mem.2 ⟨h2, by omega, h3⟩, Nat.zero_add i⟩, by omega⟩]
    · rw [if_neg (show ¬ i - usedL l < 1 + T.length + r by omega), if_neg (fun h => by omega), List.getElem?_eq_none (by omega)]

/-- Open, behind a failure in the midst of an Add. -/
theorem open_soiled {w : World} {gd from_ many r : Nat} {F : Nat → Prop} {st : St} {l T : List (List Nat)} (E : Errs) (hE : ∀ W, But F w W → Laid W E) (h : Disk w gd F st) (hfit : from_ + many ≤ st.sure.length) (hw : st.waits.length ≤ 800000) (hl : st.lets = -1)
    (hb : ∀ b ∈ l, b.length ≤ 256) (hT : T.length ≤ 4) (hr : usedL l + 1 + T.length + r = many) (hreg : regionL st.read from_ many = lsecs 0 l ++ nought :: (T ++ List.replicate r nought)) :
    Calls Tryd.prog 10 #[.pointer (some ⟨gd, 0, none⟩), .int .i64 (from_ : Int), .int .i64 (many : Int)] w fun e w' => ∃ sb R F' G', e = .returned (.tuple #[.pointer (some ⟨sb, 0, none⟩), .int .i64 0]) ∧
      Held_ w' gd sb from_ many ⟨⟨R, [], -1, st.blown⟩, l, false⟩ F' G' ∧ regionL R from_ many = lsecs 0 l ++ List.replicate (1 + T.length + r) nought ∧ But F w w' ∧ (∀ x, F' x → F x ∨ w.heap.size ≤ x) ∧ ∀ x, G' x → w.heap.size ≤ x := by
  have hle := h.1.le
  have hfo : st.foundIn from_ many = l := by unfold St.foundIn; rw [hreg]; exact found_soiled r hb (by have := len_le_used l; omega)
  have hfo2 : found (regionL st.read from_ many) = l := hfo
  have hop := wipes_free (soils (regionL st.read from_ many) (usedL (found (regionL st.read from_ many))) many) from_ st hl
  have hop : st.opens from_ many = (0, ⟨setN st.read from_ (soils (regionL st.read from_ many) (usedL (found (regionL st.read from_ many))) many), [], -1, st.blown⟩) := hop
  have hnot : ¬ st.tooFar from_ many := by
    unfold St.tooFar
    rintro ⟨n, hn, h5⟩
    rw [hfo2] at hn h5
    rw [hreg] at hn
    have := soils_near hr hn
    omega
  refine (callsIn_wide.1 (open_go E hE h (by omega) hfit hw)).mono ?_
  rintro e w' (⟨h3, _⟩ | ⟨_, h3, _⟩ | ⟨_, _, sb, F', G', he, hh, hbt, hf, hg⟩)
  · exact absurd h3 hnot
  · rw [hop] at h3; exact absurd rfl h3
  · rw [hop, hfo] at hh
    refine ⟨sb, _, F', G', he, hh, ?_, hbt, hf, hg⟩
    rw [region_setN, hfo2, hreg]
    exact wiped_region hr

end Go.Proofs.YtjkohceigdfmjaaDoor

/-
  What an Add leaves of the region: what is read, and what is sure of it.
-/
namespace Go.Proofs.YtjkohceigdfmjaaDoor
open Go.RowKit

theorem add_neat {m : Sm} {from_ many r : Nat} {xs : List Nat} (h : m.st.lets = -1) (hd : m.down = false) (h1 : xs.length ≤ 256) (hx : ∀ x ∈ xs, x < 256) (h0 : usedL m.l + r = many) (hs : secs xs.length ≤ r)
    (hreg : regionL m.st.read from_ many = lsecs 0 m.l ++ List.replicate r nought) :
    regionL (m.add from_ many xs).2.st.read from_ many = lsecs 0 (m.l ++ [xs]) ++ List.replicate (r - secs xs.length) nought ∧
    regionL (m.add from_ many xs).2.st.sure from_ many = lsecs 0 m.l ++ nought :: ((fsecs (m.l.length + 1) xs).tail ++ List.replicate (r - secs xs.length) nought) ∧
    (m.add from_ many xs).2.st.waits = [(from_ + usedL m.l, (fsecs (m.l.length + 1) xs).headD [])] := by
  have e := add_free (from_ := from_) (many := many) h hd h1 hx (by omega)
  have ha := add_region (l := m.l) (r := r) (xs := xs) hs
  rw [e]
  have hsure : regionL (setAll m.st.read (from_ + usedL m.l + 1) (fsecs (m.l.length + 1) xs).tail) from_ many = lsecs 0 m.l ++ nought :: ((fsecs (m.l.length + 1) xs).tail ++ List.replicate (r - secs xs.length) nought) := by
    rw [Nat.add_assoc, region_setAll, hreg]
    exact ha.2
  refine ⟨?_, hsure, rfl⟩
  show regionL ((setAll m.st.read (from_ + usedL m.l + 1) (fsecs (m.l.length + 1) xs).tail).set (from_ + usedL m.l) ((fsecs (m.l.length + 1) xs).headD [])) from_ many = _
  rw [region_set, Nat.add_assoc, region_setAll, hreg]
  exact ha.1
/-- What a failure keeps of it: all, or all but the newest record. -/
theorem kept_neat {m : Sm} {from_ many r : Nat} {xs : List Nat} {ks : List Bool} (h : m.st.lets = -1) (hd : m.down = false) (h1 : xs.length ≤ 256) (hx : ∀ x ∈ xs, x < 256) (h0 : usedL m.l + r = many) (hs : secs xs.length ≤ r)
    (hreg : regionL m.st.read from_ many = lsecs 0 m.l ++ List.replicate r nought) :
    (kept (m.add from_ many xs).2.st.waits ks = (m.add from_ many xs).2.st.waits ∧ regionL (settle (m.add from_ many xs).2.st.sure (kept (m.add from_ many xs).2.st.waits ks)) from_ many = lsecs 0 (m.l ++ [xs]) ++ List.replicate (r - secs xs.length) nought) ∨
    (kept (m.add from_ many xs).2.st.waits ks = [] ∧ regionL (settle (m.add from_ many xs).2.st.sure (kept (m.add from_ many xs).2.st.waits ks)) from_ many = lsecs 0 m.l ++ nought :: ((fsecs (m.l.length + 1) xs).tail ++ List.replicate (r - secs xs.length) nought)) := by
  obtain ⟨a1, a2, a3⟩ := add_neat h hd h1 hx h0 hs hreg
  obtain ⟨s, hst⟩ : ∃ s, (m.add from_ many xs).2.st = s := ⟨_, rfl⟩
  rw [hst] at a1 a2 a3 ⊢
  have hk : kept s.waits ks = s.waits ∨ kept s.waits ks = [] := by
    rw [a3]
    cases ks with
    | nil => right; rfl
    | cons b ks => cases b with
      | true => left; simp [kept, pick]
      | false => right; simp [kept, pick]
  rcases hk with k | k
  · left; rw [k]; exact ⟨rfl, a1⟩
  · right; rw [k, settle_nil]; exact ⟨rfl, a2⟩

end Go.Proofs.YtjkohceigdfmjaaDoor

/-
  The calls that make a frame stand there.
-/
namespace Go.Proofs.YtjkohceigdfmjaaDoor
open Go.RowKit

def fnS (gd : Nat) : Value := .func (.func 36) #[.pointer (some ⟨gd, 0, none⟩)] #[]
def fnF (v : Value) : Value := .func (.func 49) #[v] #[]
def fnO (v : Value) : Value := .func (.func 50) #[v] #[]

/-- The calls lie in block C. -/
def CallsAt (w : World) (C gd at_ k nn : Nat) (u : Value) : Prop :=
  (k = 1 ∧ nn = 2 ∧ w.heap[C]? = some (.cells #[fnS gd, fnF (addedV gd at_ u)] 36 (0, 0))) ∨
  (k ≠ 1 ∧ nn = 4 ∧ w.heap[C]? = some (.cells #[fnS gd, fnO (addedV gd at_ u), fnS gd, fnF (addedV gd at_ u)] 36 (0, 0)))

set_option maxRecDepth 100000 in
set_option maxHeartbeats 1000000 in
theorem calls_added {w : World} {gd at_ : Nat} {A : Option Addr} {k c : Nat} (hk : k ≤ 5) :
    Calls Tryd.prog 32 #[addedV gd at_ (.slice A (64 * k) c)] w fun e w' => ∃ C nn, e = .returned (.slice (some ⟨C, 0, none⟩) nn nn) ∧ Below w.heap.size w w' ∧ w.heap.size ≤ C ∧ CallsAt w' C gd at_ k nn (.slice A (64 * k) c) := by
  obtain ⟨u, hu⟩ : ∃ u, Value.slice A (64 * k) c = u := ⟨_, rfl⟩
  have hw1 := below_alloc w (.cells #[.pointer (some ⟨gd, 0, none⟩), .int .i64 (at_ : Int), u] 65)
  have hone : u.oneCell' = true := by rw [← hu]; rfl
  obtain ⟨w1, hw1e⟩ : ∃ w1, w.alloc (.cells #[.pointer (some ⟨gd, 0, none⟩), .int .i64 (at_ : Int), u] 65) = w1 := ⟨_, rfl⟩
  have C1 := sectors_added (w := w1) (gd := gd) (at_ := at_) (A := A) (k := k) (c := c) (by omega)
  rw [hu] at C1 ⊢
  obtain ⟨B, hB⟩ : ∃ B, w.heap.size = B := ⟨_, rfl⟩
  have row : w1.heap[B]? = some (.cells #[.pointer (some ⟨gd, 0, none⟩), .int .i64 (at_ : Int), u] 65 (0, 0)) := by rw [← hw1e, ← hB]; exact World.alloc_heap_new w _
  rw [hw1e] at hw1
  unfold addedV at C1 ⊢
  have HX := Lib.hid (And.intro hw1 (And.intro hw1e (And.intro hB row)))
  have HC := Lib.hid C1
  have c0 : w1.cell? ⟨B, 0, none⟩ = some (.pointer (some ⟨gd, 0, none⟩)) := by rw [cell_of_row _ B 0 _ _ (0, 0) row]; rfl
  have c1 : w1.cell? ⟨B, 1, none⟩ = some (.int .i64 (at_ : Int)) := by rw [cell_of_row _ B 1 _ _ (0, 0) row]; rfl
  have c2 : w1.cell? ⟨B, 2, none⟩ = some u := by rw [cell_of_row _ B 2 _ _ (0, 0) row]; rfl
  clear hw1 hw1e hB row C1 hu
  by_cases h1 : k = 1
  · subst h1
    go_enter Tryd.func32, Tryd.ntmps32
    go_wp2_with fail
    rw [HX.out.2.1, HX.out.2.2.1]
    go_wp2_with fail
    refine HC.out.mono ?_
    rintro e w2 ⟨rfl, hb2⟩
    have d0 : w2.cell? ⟨B, 0, none⟩ = some (.pointer (some ⟨gd, 0, none⟩)) := (hb2.cell (World.block_lt_of_cell? w1 _ c0)).trans c0
    have d1 : w2.cell? ⟨B, 1, none⟩ = some (.int .i64 (at_ : Int)) := (hb2.cell (World.block_lt_of_cell? w1 _ c1)).trans c1
    have d2 : w2.cell? ⟨B, 2, none⟩ = some u := (hb2.cell (World.block_lt_of_cell? w1 _ c2)).trans c2
    go_wp2
    go_ret
    refine ⟨_, _, rfl, ?_, ?_, .inl ⟨rfl, rfl, World.alloc_heap_new w2 _⟩⟩
    · exact (HX.out.1.trans (hb2.mono HX.out.1.size)).trans ((below_alloc w2 _).mono (Nat.le_trans HX.out.1.size hb2.size))
    · exact Nat.le_trans HX.out.1.size hb2.size
  · have hki : ((k : Int) == 1) = false := by simp; omega
    go_enter Tryd.func32, Tryd.ntmps32
    go_wp2_with fail
    rw [HX.out.2.1, HX.out.2.2.1]
    go_wp2_with fail
    refine HC.out.mono ?_
    rintro e w2 ⟨rfl, hb2⟩
    have d0 : w2.cell? ⟨B, 0, none⟩ = some (.pointer (some ⟨gd, 0, none⟩)) := (hb2.cell (World.block_lt_of_cell? w1 _ c0)).trans c0
    have d1 : w2.cell? ⟨B, 1, none⟩ = some (.int .i64 (at_ : Int)) := (hb2.cell (World.block_lt_of_cell? w1 _ c1)).trans c1
    have d2 : w2.cell? ⟨B, 2, none⟩ = some u := (hb2.cell (World.block_lt_of_cell? w1 _ c2)).trans c2
    go_wp2
    go_ret
    refine ⟨_, _, rfl, ?_, ?_, .inr ⟨h1, rfl, World.alloc_heap_new w2 _⟩⟩
    · exact (HX.out.1.trans (hb2.mono HX.out.1.size)).trans ((below_alloc w2 _).mono (Nat.le_trans HX.out.1.size hb2.size))
    · exact Nat.le_trans HX.out.1.size hb2.size

/-- What the calls answer and leave. -/
def Sm.calls (m : Sm) (at_ : Nat) (L : List (List Nat)) : Int × Sm :=
  if m.down then (9, m) else ((runs (addSteps at_ L) m.st).1, ⟨(runs (addSteps at_ L) m.st).2, m.l, decide ((runs (addSteps at_ L) m.st).1 ≠ 0)⟩)

theorem call_added {w : World} {gd sb from_ many at_ k c C nn : Nat} {F G : Nat → Prop} {m : Sm} {a : Addr} {L : List (List Nat)} (h : Held_ w gd sb from_ many m F G) (hc : CallsAt w C gd at_ k nn (.slice (some a) (64 * k) c)) (hC : ¬ F C)
    (hin : In w (some a) (64 * k) L.flatten) (hL : L.length = k) (hs : ∀ x ∈ L, Sec x) (hA : ¬ F a.block) (h0 : 0 < k) (hk : k ≤ 5) (hnc : 64 * k ≤ c) (hat : at_ + k ≤ m.st.sure.length) (hw : m.st.waits.length ≤ 800000) :
    Calls Tryd.prog 31 #[.pointer (some ⟨sb, 0, none⟩), .slice (some ⟨C, 0, none⟩) nn nn] w fun e W' => e = .returned (.int .i64 (m.calls at_ L).1) ∧ Went w gd sb from_ many F G (m.calls at_ L).2 W' := by
  by_cases hd : m.down = true
  · obtain ⟨⟨v, vals, hh⟩, hG⟩ := h.s
    have c5 := hh.c5
    rw [hd] at c5
    have e1 : m.calls at_ L = (9, m) := by unfold Sm.calls; rw [if_pos hd]
    rw [e1]
    refine (call_down c5).mono ?_
    rintro e w' ⟨he, rfl⟩
    exact ⟨he, went_refl h (Below.refl _ _)⟩
  · have hd0 : m.down = false := by simpa using hd
    have h1 : Held_ w gd sb from_ many ⟨m.st, m.l, false⟩ F G := by
      obtain ⟨st, l, down⟩ := m
      cases hd0
      exact h
    have e1 : m.calls at_ L = ((runs (addSteps at_ L) m.st).1, ⟨(runs (addSteps at_ L) m.st).2, m.l, decide ((runs (addSteps at_ L) m.st).1 ≠ 0)⟩) := by unfold Sm.calls; rw [if_neg hd]
    rw [e1]
    have hle := h.d.1.le
    have hFa : ∀ (F' : Nat → Prop), (∀ x, F' x → F x ∨ w.heap.size ≤ x) → ¬ F' a.block := fun F' hf e => by
      rcases hf _ e with k1 | k1
      · exact hA k1
      · obtain ⟨ad, x, e2, _, hcc⟩ := hin.at_ (k := 0) (by omega)
        cases e2
        have := World.block_lt_of_cell? w _ hcc
        rw [block_add] at this
        omega
    have hinW : ∀ W, But F w W → In W (some a) (64 * k) L.flatten := fun W hb => in_but hin hb (fun ad e => by cases e; exact hA)
    have cS : ∀ (W : World) (F' : Nat → Prop) (s : St), Disk W gd F' s → Calls Tryd.prog 36 #[.pointer (some ⟨gd, 0, none⟩)] W fun e W' => e = .returned (.int .i64 (stepS s).1) ∧ Acted W gd F' (stepS s).2 W' := fun W F' s hd => sync_gen hd
    have cF : ∀ (W : World) (F' : Nat → Prop) (s : St), But F w W → Disk W gd F' s → (∀ x, F' x → F x ∨ w.heap.size ≤ x) → s.sure.length = m.st.sure.length → s.waits.length ≤ m.st.waits.length + 20 →
        Calls Tryd.prog 49 #[addedV gd at_ (.slice (some a) (64 * k) c)] W fun e W' => e = .returned (.int .i64 (stepW at_ (L.headD []) s).1) ∧ Acted W gd F' (stepW at_ (L.headD []) s).2 W' :=
      fun W F' s hb hd hf hsu hwa => first_added hd (hinW W hb) hL hs (fun ad e => by cases e; exact hFa F' hf) h0 hk hnc (by omega) (by omega)
    rcases hc with ⟨rfl, rfl, row⟩ | ⟨hk1, rfl, row⟩
    · have e2 : addSteps at_ L = [stepS, stepW at_ (L.headD [])] := by unfold addSteps; rw [if_pos hL]
      rw [e2]
      refine call_steps (C := C) (n := 2) (cap := 2) h1 _ [(36, #[.pointer (some ⟨gd, 0, none⟩)]), (49, #[addedV gd at_ (.slice (some a) (64 * 1) c)])] rfl rfl (by decide) ?_ ?_ hC ?_ ?_
      · intro j f bd hj zs W
        rcases j with _ | _ | j
        · cases hj; show (callFunc 36 zs).run Tryd.prog W = .ok (.enter 36 zs) W; kernel_rfl
        · cases hj; show (callFunc 49 zs).run Tryd.prog W = .ok (.enter 49 zs) W; kernel_rfl
        · simp at hj
      · intro j f bd hj
        rcases j with _ | _ | j
        · cases hj; rw [cell_of_row _ C 0 _ _ (0, 0) row]; rfl
        · cases hj; rw [cell_of_row _ C 1 _ _ (0, 0) row]; rfl
        · simp at hj
      · intro f hf s
        simp only [List.mem_cons, List.not_mem_nil, or_false] at hf
        rcases hf with rfl | rfl
        · exact stepS_q s
        · exact stepW_q _ _ s
      · intro j f bd g hj hg W F' s hb hd hf hsu hwa
        rcases j with _ | _ | j
        · cases hj; cases hg; exact cS W F' s hd
        · cases hj; cases hg; exact cF W F' s hb hd hf hsu (by omega)
        · simp at hj
    · have e2 : addSteps at_ L = [stepS, stepO (at_ + 1) L.tail, stepS, stepW at_ (L.headD [])] := by unfold addSteps; rw [if_neg (by omega)]
      rw [e2]
      obtain ⟨x0, T, rfl⟩ : ∃ x0 T, L = x0 :: T := by
        cases L with
        | nil => simp at hL; omega
        | cons x T => exact ⟨x, T, rfl⟩
      rw [List.length_cons] at hL
      have cO : ∀ (W : World) (F' : Nat → Prop) (s : St), But F w W → Disk W gd F' s → (∀ x, F' x → F x ∨ w.heap.size ≤ x) → s.sure.length = m.st.sure.length → s.waits.length ≤ m.st.waits.length + 20 →
          Calls Tryd.prog 50 #[addedV gd at_ (.slice (some a) (64 * k) c)] W fun e W' => e = .returned (.int .i64 (stepO (at_ + 1) T s).1) ∧ Acted W gd F' (stepO (at_ + 1) T s).2 W' :=
        fun W F' s hb hd hf hsu hwa => (callsIn_wide (n := 3)).1 (others_in hd (hinW W hb) hL (by omega) hs (hFa F' hf) hk hnc (by omega) (by omega) (by omega))
      refine call_steps (C := C) (n := 4) (cap := 4) h1 _ [(36, #[.pointer (some ⟨gd, 0, none⟩)]), (50, #[addedV gd at_ (.slice (some a) (64 * k) c)]), (36, #[.pointer (some ⟨gd, 0, none⟩)]), (49, #[addedV gd at_ (.slice (some a) (64 * k) c)])] rfl rfl (by decide) ?_ ?_ hC ?_ ?_
      · intro j f bd hj zs W
        rcases j with _ | _ | _ | _ | j
        · cases hj; show (callFunc 36 zs).run Tryd.prog W = .ok (.enter 36 zs) W; kernel_rfl
        · cases hj; show (callFunc 50 zs).run Tryd.prog W = .ok (.enter 50 zs) W; kernel_rfl
        · cases hj; show (callFunc 36 zs).run Tryd.prog W = .ok (.enter 36 zs) W; kernel_rfl
        · cases hj; show (callFunc 49 zs).run Tryd.prog W = .ok (.enter 49 zs) W; kernel_rfl
        · simp at hj
      · intro j f bd hj
        rcases j with _ | _ | _ | _ | j
        · cases hj; rw [cell_of_row _ C 0 _ _ (0, 0) row]; rfl
        · cases hj; rw [cell_of_row _ C 1 _ _ (0, 0) row]; rfl
        · cases hj; rw [cell_of_row _ C 2 _ _ (0, 0) row]; rfl
        · cases hj; rw [cell_of_row _ C 3 _ _ (0, 0) row]; rfl
        · simp at hj
      · intro f hf s
        simp only [List.mem_cons, List.not_mem_nil, or_false, List.tail_cons] at hf
        rcases hf with rfl | rfl | rfl | rfl
        · exact stepS_q s
        · exact stepO_q _ _ (by omega) s
        · exact stepS_q s
        · exact stepW_q _ _ s
      · intro j f bd g hj hg W F' s hb hd hf hsu hwa
        rcases j with _ | _ | _ | _ | j
        · cases hj; cases hg; exact cS W F' s hd
        · cases hj; cases hg; exact cO W F' s hb hd hf hsu (by omega)
        · cases hj; cases hg; exact cS W F' s hd
        · cases hj; cases hg; exact cF W F' s hb hd hf hsu (by omega)
        · simp at hj

end Go.Proofs.YtjkohceigdfmjaaDoor

/-
  frames.Put.
-/
namespace Go.Proofs.YtjkohceigdfmjaaDoor
open Go.RowKit

theorem splice_bytes (ys : List Nat) (k : Nat) (cs : List Nat) : splice (bvs ys) k (bvs cs) = bvs (ys.take k ++ cs ++ ys.drop (k + cs.length)) := by
  unfold splice
  rw [bvs_append, bvs_append, bvs_length]
  simp [bvs, List.map_take, List.map_drop]
theorem made_noughts (m : Nat) : madeCells #[.int .u8 0] m = (bvs (List.replicate m 0)).toArray := by
  apply Array.ext'
  simp only [madeCells, bvs, List.map_replicate, Array.toList_map, Array.toList_range]
  rw [List.eq_replicate_iff]
  refine ⟨by simp, fun b hb => ?_⟩
  obtain ⟨i, _, rfl⟩ := List.mem_map.1 hb
  simp [Nat.mod_one, bv]
theorem In.from_ {W : World} {A : Option Addr} {n : Nat} {xs : List Nat} (h : In W A n xs) : 0 < (bvs xs).length → ∃ ad, A = some ad ∧ ∀ j v, (bvs xs)[j]? = some v → W.cell? (ad.add j) = some v := by
  intro h0
  rw [bvs_length] at h0
  obtain ⟨ad, rfl, _⟩ := h.rd.at_ h0
  refine ⟨ad, rfl, fun j v hv => ?_⟩
  rw [bvs_get] at hv
  obtain ⟨x, hx, rfl⟩ := Option.map_eq_some_iff.1 hv
  obtain ⟨ad', e, hc⟩ := h.rd j x hx
  cases e
  exact hc

/-- 'append(s, l...)' of bytes, s without room for l. -/
theorem wpList_app_grows {ops : Array Oper} {rest : List Oper} {o : Oper} {a : Act} {Q : Exit → Act → World → Prop} (w : World) (hgd : o.guard = none) (s x : Operand)
    (ho : o.op = .call { callee := .builtin .append, args := #[s, x], argTypes := #[35, 35] })
    (A : Option Addr) (n c : Nat) (xs : List Nat) (hs : a.eval s = .slice A n c) (hin : In w A n xs) (hA : A = none → n = 0 ∧ c = 0)
    (ad : Addr) (m c2 : Nat) (ys : List Nat) (hx : a.eval x = .slice (some ad) m c2) (hin2 : In w (some ad) m ys) (hg : c < n + m) (hle : n + m ≤ 140737488355328)
    (h : ∀ A' c' w', w'.ownsRow w.heap.size 5 1 (.slice A' (n + m) c') (n + m) (bvs (xs ++ ys)) → Below w.heap.size w w' → wpList Tryd.prog ops Q rest (a.put o.dst (.slice A' (n + m) c')) w') :
    wpList Tryd.prog ops Q (o :: rest) a w := by
  obtain ⟨i0, hi, hz0, hz1, hz2⟩ := info_parts infoByte
  refine wpList_append_grows w hgd s x 35 ho 5 i0 _ 1 1 Tryd.underlying35 hi hz0 hz1 hz2 rfl (by decide) A n c (bvs xs) hs hA (by rw [bvs_length, hin.len]; simp) ?_ ad m c2 (bvs ys) hx (by rw [bvs_length, hin2.len]; simp) ?_ (bvs_oneCell ys) hg (by unfold maxLen; omega) (by omega) ?_
  · intro b hb j u hu
    rw [bvs_get] at hu
    obtain ⟨y, hy, rfl⟩ := Option.map_eq_some_iff.1 hu
    obtain ⟨ad', e, hc⟩ := hin.rd j y hy
    rw [hb] at e
    cases e
    exact hc
  · intro j u hu
    rw [bvs_get] at hu
    obtain ⟨y, hy, rfl⟩ := Option.map_eq_some_iff.1 hu
    obtain ⟨ad', e, hc⟩ := hin2.rd j y hy
    cases e
    exact hc
  · intro v' w' h2 h3
    rw [← bvs_append] at h2
    obtain ⟨A', c', rfl⟩ := own_form h2
    exact h A' c' w' h2 ((Below.refl _ _).grown h3 (Nat.le_refl _) (fun k hk => by cases hk))
theorem In.lit_ (W : World) (xs : List Nat) (fr : Nat × Nat) : In (W.alloc (.cells (bvs xs).toArray 5 fr)) (some ⟨W.heap.size, 0, none⟩) xs.length xs :=
  ⟨rfl, fun j x hx => ⟨_, rfl, by
    rw [show (⟨W.heap.size, 0, none⟩ : Addr).add j = ⟨W.heap.size, j, none⟩ from by unfold Addr.add; split <;> simp_all]
    rw [cell_of_row _ W.heap.size j _ 5 fr (World.alloc_heap_new W _), List.getElem?_toArray, bvs_get, hx]
    rfl⟩⟩
theorem own_ad {w : World} {base size n : Nat} {A : Option Addr} {c : Nat} {e : TypeId} {xs : List Value} (h : w.ownsRow base e size (.slice A n c) n xs) (hn : 0 < n) : ∃ g, A = some ⟨g, 0, none⟩ := by
  obtain ⟨g, cap, hv⟩ := Joins.ownsRow_form h hn
  injection hv with h1
  exact ⟨g, h1⟩

/-- What Put answers. -/
def PutPost (num : Nat) (xs : List Nat) (n : Nat) (w : World) (e : Ending) (w' : World) : Prop :=
  ∃ A c, e = .returned (.tuple #[.slice A (64 * secs n) c, .int .i64 0]) ∧ w'.ownsRow w.heap.size 5 1 (.slice A (64 * secs n) c) (64 * secs n) (bvs (frameL num xs)) ∧ Below w.heap.size w w'

set_option maxRecDepth 100000 in
theorem put_great (num n c : Nat) (A : Option Addr) (w : World) (h : 256 < n) :
    Calls Tryd.prog 29 #[.int .u64 (num : Int), .slice A n c] w fun e w' => e = .returned (.tuple #[.slice none 0 0, .int .i64 3]) ∧ w = w' := by
  have hi : (256 : Int) < (n : Int) := by omega
  go_enter Tryd.func29, Tryd.ntmps29
  go_wp2_with fail
  go_ret2
  exact ⟨rfl, rfl⟩

set_option maxRecDepth 100000 in
set_option maxHeartbeats 4000000 in
theorem put_frame (num n c : Nat) (A : Option Addr) (xs : List Nat) (w : World) (h : n ≤ 256) (hin : In w A n xs) (hx : ∀ x ∈ xs, x < 256) (hA : A = none → n = 0) (hnc : n ≤ c) :
    Calls Tryd.prog 29 #[.int .u64 (num : Int), .slice A n c] w (PutPost num xs n w) := by
  have hi : ¬ (256 : Int) < (n : Int) := by omega
  have C1 := Lib.hid (fun W => numbers_any num n (by omega) (by omega) W)
  have C2 := Lib.hid (fun (W : World) (hb : Below w.heap.size w W) => sumOf_any num A n c xs W (hin.below hb) hx hA hnc (by omega))
  have C3 := Lib.hid (fun (A1 : Option Addr) (c1 : Nat) (W : World) (hi : In W A1 14 (recMark ++ toldL num n)) => put_any A1 14 c1 (recMark ++ toldL num n) (sumL num xs) 4 4 (kk_nat 4 (by omega)) W hi (by omega))
  have C4 := Lib.hid (fun W => sectors_any n (by omega) W)
  have hmk := fun m (hm : m ≤ 1000) => make_bytes m m (Nat.le_refl _) (by omega)
  have HX := Lib.hid (And.intro hin (And.intro hx hA))
  clear hin hx hA
  have kc := fun (W : World) (C : Array Value) (n c g : Nat) (hg : g = W.heap.size) => Joins.run_convert_bytes_const_at (P := Tryd.prog) W 35 5 C n c g hg Tryd.underlying35 Tryd.underlying5
  go_enter Tryd.func29, Tryd.ntmps29
  go_wp2_with fail
  have i1 : In (w.alloc (.cells #[.int .u8 82, .int .u8 69, .int .u8 67, .int .u8 49] 5 (4, 5))) (some ⟨w.heap.size, 0, none⟩) 4 recMark := In.lit_ w recMark (4, 5)
  have hb1 := below_alloc w (.cells #[.int .u8 82, .int .u8 69, .int .u8 67, .int .u8 49] 5 (4, 5))
  obtain ⟨w1, hw1⟩ : ∃ w1, w.alloc (.cells #[.int .u8 82, .int .u8 69, .int .u8 67, .int .u8 49] 5 (4, 5)) = w1 := ⟨_, rfl⟩
  rw [hw1] at i1 hb1 ⊢
  clear hw1 kc
  have HB1 := Lib.hid hb1
  clear hb1
  obtain ⟨g0, hg0⟩ : ∃ g, w.heap.size = g := ⟨_, rfl⟩
  rw [hg0] at i1 ⊢
  have HG0 := Lib.hid hg0
  clear hg0
  have I1 := Lib.hid i1
  clear i1
  refine (C1.out _).mono ?_
  rintro e w2 ⟨A2, c2, rfl, ho2, hb2⟩
  obtain ⟨g2, rfl⟩ := own_ad ho2 (by omega)
  have H2 := Lib.hid (And.intro (I1.out.below hb2) (And.intro (In.of_own ho2) (below_on HB1.out (Nat.le_refl _) hb2)))
  clear ho2 hb2
  go_wp2_with (at_builtin; refine wpList_app_grows _ rfl (.tmp 12) (.tmp 16) rfl (some ⟨g0, 0, none⟩) 4 4 recMark rfl H2.out.1 (fun e => by cases e) ⟨g2, 0, none⟩ 10 c2 (toldL num n) rfl H2.out.2.1 (by omega) (by omega) ?_; intro A3 c3 w3 ho3 hb3)
  have H3 := Lib.hid (And.intro (show In w3 A3 14 (recMark ++ toldL num n) from In.of_own ho3) (below_on H2.out.2.2 (Nat.le_refl _) hb3))
  clear ho3 hb3
  refine (C2.out _ H3.out.2).mono ?_
  rintro e w4 ⟨rfl, hb4⟩
  have H4 := Lib.hid (And.intro (H3.out.1.below hb4) (below_on H3.out.2 (Nat.le_refl _) hb4))
  clear hb4
  go_wp2_with fail
  refine (C3.out A3 c3 w4 H4.out.1).mono ?_
  rintro e w5 ⟨A5, c5, rfl, ho5, hb5⟩
  have hhd : recMark ++ toldL num n ++ dg (sumL num xs) 4 = headL num xs := by unfold headL; rw [HX.out.1.len]
  rw [hhd] at ho5
  have H5 := Lib.hid (And.intro (show In w5 A5 18 (headL num xs) from In.of_own ho5) (below_on H4.out.2 (Nat.le_refl _) hb5))
  clear ho5 hb5 hhd
  obtain ⟨q, hq⟩ : ∃ q, secs n = q := ⟨_, rfl⟩
  have q1 := secs_ge n
  have q2 := secs_le n h
  rw [hq] at q1 q2 C4
  obtain ⟨L, hL⟩ : ∃ L, 64 * q = L := ⟨_, rfl⟩
  have hLi : 64 * (q : Int) = (L : Int) := by omega
  have hL1 : 18 + n ≤ L := by omega
  have hL2 : L ≤ 320 := by omega
  have hL3 : L % 64 = 0 := by omega
  have HQ := Lib.hid (And.intro hq hL)
  clear hq q1 q2 hL
  have hmk5 := hmk L (by omega) w5
  rw [made_noughts] at hmk5
  have hg6 : (w5.alloc (.cells (bvs (List.replicate L 0)).toArray 5)).heap[w5.heap.size]? = some (.cells (bvs (List.replicate L 0)).toArray 5 (0, 0)) := World.alloc_heap_new w5 _
  have hb6 := below_alloc w5 (.cells (bvs (List.replicate L 0)).toArray 5)
  obtain ⟨w6, hw6⟩ : ∃ w6, w5.alloc (.cells (bvs (List.replicate L 0)).toArray 5) = w6 := ⟨_, rfl⟩
  rw [hw6] at hmk5 hg6 hb6
  clear hw6 hmk
  have hB6 : Hid (Below w.heap.size w w6) := below_on H5.out.2 (Nat.le_refl _) hb6
  have i5 := Lib.hid (H5.out.1.below hb6)
  have hgw : Hid (w.heap.size ≤ w5.heap.size) := H5.out.2.size
  obtain ⟨g6, hgg⟩ : ∃ g, w5.heap.size = g := ⟨_, rfl⟩
  rw [hgg] at hmk5 hg6 hgw
  clear hgg hb6
  obtain ⟨B6, hcut, hB6'⟩ := cut_name (A := some ⟨g6, 0, none⟩) (n := L) (c := L) (k := 18) (by omega)
  rw [if_neg (by omega)] at hB6'
  have hB6'' : B6 = some ⟨g6, 18, none⟩ := by rw [hB6']; rfl
  subst hB6''
  clear hB6'
  obtain ⟨L2, hL4⟩ : ∃ L2, L - 18 = L2 := ⟨_, rfl⟩
  rw [hL4] at hcut
  have HL4 := Lib.hid hL4
  have hcut' : ∀ W : World, (Instr.slice 35 (.slice (some ⟨g6, 0, none⟩) L L) (some (.int .i64 18)) none none).run Tryd.prog W = .ok (.slice (some ⟨g6, 18, none⟩) L2 L2) W := hcut
  clear hcut
  clear hL4
  have hn1 : Hid ((bvs (headL num xs)).length = Nat.min 18 L) := by
    show _ = _
    rw [bvs_length, headL_length]
    exact (Nat.min_eq_left (by omega)).symm
  have hf1 : Hid (0 + (bvs (headL num xs)).length ≤ (bvs (List.replicate L 0)).length) := by
    show _ ≤ _
    rw [bvs_length, headL_length, bvs_length, List.length_replicate]
    omega
  have hc5 : 18 ≤ L := by omega
  have HG6 := Lib.hid hg6
  clear hg6
  go_wp2_with fail
  refine (C4.out _).mono ?_
  rintro e w5' ⟨rfl, rfl⟩
  go_upto_region 7 with (with_reducible refine wpList_copy_splice rfl (.tmp 28) (.tmp 29) 35 35 rfl 5 Tryd.underlying35 sizeByte (some ⟨g6, 0, none⟩) A5 L L 18 c5 rfl rfl g6 0 (bvs (List.replicate L 0)) 5 HG6.out (bvs (headL num xs)) hn1.out (fun h => ⟨rfl, i5.out.from_ h⟩) hf1.out (bvs_oneCell _) w.heap.size w hB6.out hgw.out ?_; intro w7 hw7 hb7)
  have hg7 := hw7.out
  rw [splice_bytes, headL_length] at hg7
  have e7 : List.take 0 (List.replicate L 0) ++ headL num xs ++ List.drop (0 + 18) (List.replicate L 0) = headL num xs ++ List.replicate L2 0 := by
    rw [List.take_zero, List.nil_append, List.drop_replicate, Nat.zero_add, HL4.out]
  rw [e7] at hg7
  have HB7 := Lib.hid hb7
  have i7 := Lib.hid (HX.out.1.below hb7)
  have HG7 := Lib.hid hg7
  have hn2 : Hid ((bvs xs).length = Nat.min n L2) := by
    show _ = _
    have := HL4.out
    rw [bvs_length, HX.out.1.len]
    exact (Nat.min_eq_left (by omega)).symm
  have hf2 : Hid (18 + (bvs xs).length ≤ (bvs (headL num xs ++ List.replicate L2 0)).length) := by
    show _ ≤ _
    have := HL4.out
    rw [bvs_length, HX.out.1.len, bvs_length, List.length_append, headL_length, List.length_replicate]
    omega
  clear hw7 hb7 hg7 e7
  go_wp2_with (with_reducible refine wpList_copy_splice rfl (.tmp 32) (.tmp 33) 35 35 rfl 5 Tryd.underlying35 sizeByte (some ⟨g6, 18, none⟩) A L2 L2 n c rfl rfl g6 18 (bvs (headL num xs ++ List.replicate L2 0)) 5 HG7.out (bvs xs) hn2.out (fun h => ⟨rfl, i7.out.from_ h⟩) hf2.out (bvs_oneCell _) w.heap.size w HB7.out hgw.out ?_; intro w8 hw8 hb8)
  go_ret2
  refine ⟨some ⟨g6, 0, none⟩, L, ?_, ?_, hb8⟩
  · rw [HQ.out.1, HQ.out.2]; rfl
  · have hg8 := hw8.out
    have e8 : List.take 18 (headL num xs ++ List.replicate L2 0) ++ xs ++ List.drop (18 + xs.length) (headL num xs ++ List.replicate L2 0) = frameL num xs := by
      have h1 := HL4.out
      have h2 := HX.out.1.len
      have h3 := HQ.out
      rw [take_append_len _ _ _ (headL_length _ _), ← List.drop_drop, drop_append_len _ _ _ (headL_length _ _), List.drop_replicate, frameL, noug, h2, h3.1, h3.2, h1]
    rw [splice_bytes, e8] at hg8
    rw [HQ.out.1, HQ.out.2]
    have hfl := frameL_length num xs
    rw [HX.out.1.len, HQ.out.1, HQ.out.2] at hfl
    refine ⟨by rw [bvs_length, hfl]; simp, .inr ⟨g6, L, (bvs (frameL num xs)).toArray, rfl, hgw.out, hg8, Nat.le_refl _, by unfold maxLen; omega, ?_, ?_⟩⟩
    · rw [List.size_toArray, bvs_length, hfl]; simp
    · rw [List.take_of_length_le (by rw [bvs_length, hfl]; omega)]

end Go.Proofs.YtjkohceigdfmjaaDoor

/-
  Add.
-/
namespace Go.Proofs.YtjkohceigdfmjaaDoor
open Go.RowKit

theorem in_but0 {S : Nat → Prop} {w w' : World} {A : Option Addr} {n : Nat} {xs : List Nat} (h : In w A n xs) (hb : But S w w') (hA : ∀ ad, A = some ad → 0 < n → ¬ S ad.block) : In w' A n xs := by
  by_cases h0 : 0 < n
  · exact in_but h hb (fun ad e => hA ad e h0)
  · obtain rfl : n = 0 := by omega
    obtain rfl : xs = [] := List.length_eq_zero_iff.1 h.len
    exact In.none_ _ _

theorem Sm.add_eq {m : Sm} {from_ many : Nat} {xs : List Nat} (h1 : xs.length ≤ 256) (h2 : secs xs.length ≤ many - usedL m.l) :
    m.add from_ many xs = if (m.calls (from_ + usedL m.l) (fsecs (m.l.length + 1) xs)).1 = 0 then (0, ⟨(m.calls (from_ + usedL m.l) (fsecs (m.l.length + 1) xs)).2.st, m.l ++ [xs], (m.calls (from_ + usedL m.l) (fsecs (m.l.length + 1) xs)).2.down⟩) else m.calls (from_ + usedL m.l) (fsecs (m.l.length + 1) xs) := by
  unfold Sm.add Sm.calls
  rw [if_neg (by omega), if_neg (by omega)]
  by_cases hd : m.down = true
  · simp [hd]
  · rw [if_neg hd, if_neg hd]
    by_cases h0 : (runs (addSteps (from_ + usedL m.l) (fsecs (m.l.length + 1) xs)) m.st).1 = 0
    · simp [h0]
    · simp [h0]

theorem own_zero {w : World} {b n : Nat} {e : TypeId} {sz : Nat} {v : Value} {ys : List Value} (h : w.ownsRow b e sz v n ys) : w.ownsRow 0 e sz v n ys := by
  refine ⟨h.1, ?_⟩
  rcases h.2 with h | ⟨g, cap, cur, e, _, rest⟩
  · exact .inl h
  · exact .inr ⟨g, cap, cur, e, Nat.zero_le _, rest⟩
theorem went_then {w w1 w2 : World} {gd sb from_ many : Nat} {m2 : Sm} {F G F' G' : Nat → Prop} (hb : But (fun x => F x ∨ G x) w w1) (hf : ∀ x, F' x → F x ∨ w.heap.size ≤ x) (hg : ∀ x, G' x → G x ∨ w.heap.size ≤ x) (h : Went w1 gd sb from_ many F' G' m2 w2) : Went w gd sb from_ many F G m2 w2 := by
  obtain ⟨F2, G2, hh, hb2, hf2, hg2⟩ := h
  refine ⟨F2, G2, hh, hb.next hb2 (fun x hx e => ?_), fun x hx => ?_, fun x hx => ?_⟩
  · rcases e with e | e
    · exact (hf x e).elim .inl (fun k => by omega)
    · exact (hg x e).elim .inr (fun k => by omega)
  · rcases hf2 x hx with k | k
    · exact hf x k
    · exact .inr (Nat.le_trans hb.size k)
  · rcases hg2 x hx with k | k
    · exact hg x k
    · exact .inr (Nat.le_trans hb.size k)
theorem keep_went {w : World} {gd sb from_ many : Nat} {m : Sm} {F G : Nat → Prop} {xs : List Nat} (h : Held_ w gd sb from_ many m F G) (hb : xs.length ≤ 256 ∧ ∀ x ∈ xs, x < 256) (hf : usedL m.l + secs xs.length ≤ many) (hm : many ≤ 1000000) (W : World) (u : Value) (hW : Below w.heap.size w W)
    (hu : W.ownsRow 0 5 1 u xs.length (bvs xs)) (hub : ∀ x, u.ownBlock = some x → w.heap.size ≤ x) :
    Calls Tryd.prog 33 #[.pointer (some ⟨sb, 0, none⟩), u, .int .i64 ((secs xs.length : Nat) : Int)] W fun e w' => e = .returned (.tuple #[]) ∧ Went w gd sb from_ many F G ⟨m.st, m.l ++ [xs], m.down⟩ w' := by
  have h1 := h.below hW
  refine (keep_sto h1.s hu hb hf hm).mono ?_
  rintro e w' ⟨he, hbt, G', hs, hg⟩
  refine ⟨he, F, G', ⟨h1.d.but hbt (fun x hx hg2 => h.ap x hx hg2), hs, fun x hx hg2 => ?_, h.fits⟩, (But.of_below hW).trans (hbt.mono (fun x _ e => .inr e)), fun x hx => .inl hx, fun x hx => ?_⟩
  · have hx1 := h.d.2.2 x hx
    rcases hg x hg2 with k | k | k
    · exact h.ap x hx k
    · have := hub x k; omega
    · have := hW.size; omega
  · rcases hg x hx with k | k | k
    · exact .inl k
    · exact .inr (hub x k)
    · exact .inr (Nat.le_trans hW.size k)

set_option maxRecDepth 100000 in
set_option maxHeartbeats 2000000 in
theorem sadd_any {w : World} {gd sb from_ many : Nat} {F G : Nat → Prop} {m : Sm} {A : Option Addr} {n c : Nat} {xs : List Nat} (h : Held_ w gd sb from_ many m F G) (hin : In w A n xs) (hx : ∀ x ∈ xs, x < 256) (hA : A = none → c = 0) (hnc : n ≤ c)
    (hAF : ∀ ad, A = some ad → 0 < n → ¬ (F ad.block ∨ G ad.block)) (hw : m.st.waits.length ≤ 800000) :
    Calls Tryd.prog 11 #[.pointer (some ⟨sb, 0, none⟩), .slice A n c] w fun e w' => e = .returned (.int .i64 (m.add from_ many xs).1) ∧ Went w gd sb from_ many F G (m.add from_ many xs).2 w' := by
  obtain ⟨⟨v, vals, hh⟩, hG⟩ := h.s
  have hle := h.d.1.le
  have hfit := h.fits
  have hmany : many ≤ 4096 := by omega
  have hA0 : A = none → n = 0 := fun e => by have := hA e; omega
  have CT := there_sto hh
  have hul := hh.fits
  have hll : m.l.length ≤ 1000000 := by have := len_le_used m.l; omega
  have CN := next_sto hh hll
  by_cases hbig : 256 < n
  · have CP := put_great (m.l.length + 1) n c A w hbig
    have e1 : m.add from_ many xs = (3, m) := by unfold Sm.add; rw [if_pos (by rw [hin.len]; exact hbig)]
    rw [e1]
    have HW := Lib.hid (went_refl h (Below.refl _ w))
    have HP := Lib.hid CP
    clear h hin hx hA hnc hAF hh hG hfit hA0 hul hll CP e1
    go_enter Tryd.func11, Tryd.ntmps11
    go_wp2_with fail
    refine CT.mono ?_
    rintro e w1 ⟨rfl, rfl⟩
    go_wp2_with fail
    refine CN.mono ?_
    rintro e w1 ⟨rfl, rfl⟩
    go_wp2_with fail
    refine HP.out.mono ?_
    rintro e w1 ⟨rfl, rfl⟩
    go_wp2
    go_ret
    exact ⟨rfl, HW.out⟩
  · have hn : n ≤ 256 := by omega
    have CP := put_frame (m.l.length + 1) n c A xs w hn hin hx hA0 hnc
    have CL := fun (W : World) (hb : Below w.heap.size w W) => left_sto (hh.blocks (fun x hx => hb.block x (hG x hx))) (by omega : many ≤ 1000000)
    have hxl := hin.len
    obtain ⟨k, hk⟩ : ∃ k, secs n = k := ⟨_, rfl⟩
    have hk5 : k ≤ 5 := hk ▸ secs_le n hn
    have hk0 : 0 < k := hk ▸ secs_pos n
    obtain ⟨lf, hlf⟩ : ∃ lf, many - usedL m.l = lf := ⟨_, rfl⟩
    have hlf1 : lf ≤ 4096 := by omega
    unfold PutPost at CP
    rw [hk] at CP
    rw [hlf] at CL
    by_cases hfull : lf < k
    · have e1 : m.add from_ many xs = (11, m) := by unfold Sm.add; rw [if_neg (by omega), if_pos (by rw [hxl, hk, hlf]; exact hfull)]
      rw [e1]
      have HW := Lib.hid h
      have HP := Lib.hid CP
      have HL := Lib.hid CL
      have hcmp : (64 : Int) * (lf : Int) < ((64 * k : Nat) : Int) := by omega
      obtain ⟨n64, hn64⟩ : ∃ n64, 64 * k = n64 := ⟨_, rfl⟩
      rw [hn64] at HP hcmp
      clear h hin hx hA hnc hAF hh hG hfit hA0 hul hll CP e1 CL hk hlf hn64 hn hbig
      go_enter Tryd.func11, Tryd.ntmps11
      go_wp2_with fail
      refine CT.mono ?_
      rintro e w1 ⟨rfl, rfl⟩
      go_wp2_with fail
      refine CN.mono ?_
      rintro e w1 ⟨rfl, rfl⟩
      go_wp2_with fail
      refine HP.out.mono ?_
      rintro e w2 ⟨A2, c2, rfl, ho2, hb2⟩
      have HB2 := Lib.hid hb2
      clear ho2 hb2
      go_wp2_with fail
      refine (HL.out _ HB2.out).mono ?_
      rintro e w3 ⟨rfl, hb3⟩
      go_wp2
      go_ret
      exact ⟨rfl, went_refl HW.out (below_on HB2.out (Nat.le_refl _) hb3)⟩
    · have e1 := Sm.add_eq (m := m) (from_ := from_) (many := many) (xs := xs) (by omega) (by rw [hxl, hk, hlf]; omega)
      rw [e1]
      have hcmp : ¬ (64 : Int) * (lf : Int) < ((64 * k : Nat) : Int) := by omega
      obtain ⟨v0, hv0⟩ : ∃ v0, v0 = v := ⟨_, rfl⟩
      have c0 := hh.c0
      have c1 := hh.c1
      have c4 := hh.c4
      obtain ⟨us, hus⟩ : ∃ us, usedL m.l = us := ⟨_, rfl⟩
      rw [hus] at c4 hlf hul ⊢
      obtain ⟨at_, hat⟩ : ∃ at_, from_ + us = at_ := ⟨_, rfl⟩
      have hsum : (from_ : Int) + (us : Int) = (at_ : Int) := by omega
      have hfu : at_ ≤ 4096 := by omega
      have hwr : IntKind.i64.wrap (at_ : Int) = (at_ : Int) := by rw [IntKind.wrap_i64]; omega
      rw [hat]
      obtain ⟨⟨z, m1⟩, hzm⟩ : ∃ r, m.calls at_ (fsecs (m.l.length + 1) xs) = r := ⟨_, rfl⟩
      rw [hzm]
      have HZ := Lib.hid hzm
      have HAT := Lib.hid hat
      have H := Lib.hid (And.intro h (And.intro hin (And.intro hx (And.intro hA (And.intro hnc hAF)))))
      have H2 := Lib.hid (And.intro hh (And.intro hG (And.intro hfit (And.intro hul (And.intro hus (And.intro hlf (And.intro hk (And.intro hxl (And.intro hw hle)))))))))
      have HP := Lib.hid CP
      have HL := Lib.hid CL
      have HM := Lib.hid (And.intro hmany (And.intro hfull (And.intro hk5 (And.intro hk0 hn))))
      obtain ⟨n64, hn64⟩ : ∃ n64, 64 * k = n64 := ⟨_, rfl⟩
      have hn6 : n64 ≤ 320 := by omega
      rw [hn64] at HP hcmp
      have HN := Lib.hid hn64
      have hwlt : ∀ i v, w.cell? ⟨sb, i, none⟩ = some v → sb < w.heap.size := fun i v hc => World.block_lt_of_cell? w _ hc
      clear h hin hx hA hnc hAF hh hG hfit hA0 hul hll CP e1 CL hk hlf hn64 hn hbig hfull hus hxl hw hle hmany hk5 hk0 hv0 hat hzm
      go_enter Tryd.func11, Tryd.ntmps11
      go_wp2_with fail
      refine CT.mono ?_
      rintro e w1 ⟨rfl, rfl⟩
      go_wp2_with fail
      refine CN.mono ?_
      rintro e w1 ⟨rfl, rfl⟩
      go_wp2_with fail
      refine HP.out.mono ?_
      rintro e w2 ⟨A2, c2, rfl, ho2, hb2⟩
      have HB2 := Lib.hid (And.intro hb2 ho2)
      have hcap : n64 ≤ c2 := own_cap ho2
      clear ho2 hb2
      go_wp2_with fail
      refine (HL.out _ HB2.out.1).mono ?_
      rintro e w3 ⟨rfl, hb3⟩
      have HB3 : Hid (Below w.heap.size w w3) := below_on HB2.out.1 (Nat.le_refl _) hb3
      have d0 : w3.cell? ⟨sb, 0, none⟩ = some (.pointer (some ⟨gd, 0, none⟩)) := (HB3.out.cell (hwlt _ _ c0)).trans c0
      have d1 : w3.cell? ⟨sb, 1, none⟩ = some (.int .i64 (from_ : Int)) := (HB3.out.cell (hwlt _ _ c1)).trans c1
      have d4 : w3.cell? ⟨sb, 4, none⟩ = some (.int .i64 (us : Int)) := (HB3.out.cell (hwlt _ _ c4)).trans c4
      have e0 : ∀ o, (w3.alloc o).cell? ⟨sb, 0, none⟩ = some (.pointer (some ⟨gd, 0, none⟩)) := fun o => ((below_alloc w3 o).cell (World.block_lt_of_cell? w3 _ d0)).trans d0
      have e1 : ∀ o, (w3.alloc o).cell? ⟨sb, 1, none⟩ = some (.int .i64 (from_ : Int)) := fun o => ((below_alloc w3 o).cell (World.block_lt_of_cell? w3 _ d1)).trans d1
      have e4 : ∀ o, (w3.alloc o).cell? ⟨sb, 4, none⟩ = some (.int .i64 (us : Int)) := fun o => ((below_alloc w3 o).cell (World.block_lt_of_cell? w3 _ d4)).trans d4
      have HB33 := Lib.hid hb3
      clear hb3 c0 c1 c4 hwlt
      go_wp2_with fail
      go_region
      obtain ⟨a2, rfl⟩ : ∃ a2, A2 = some a2 := by
        have hin2 := In.of_own HB2.out.2
        obtain ⟨ad, x, e, _⟩ := hin2.at_ (k := 0) (by have := HN.out; have := HM.out.2.2.2.1; omega)
        exact ⟨ad, e⟩
      have hw4r : (w3.alloc (.cells #[.pointer (some ⟨gd, 0, none⟩), .int .i64 (at_ : Int), .slice (some a2) n64 c2] 65)).drew.heap[w3.heap.size]? = some (.cells #[.pointer (some ⟨gd, 0, none⟩), .int .i64 (at_ : Int), .slice (some a2) n64 c2] 65 (0, 0)) := World.alloc_heap_new w3 _
      have hw4b : Below w3.heap.size w3 (w3.alloc (.cells #[.pointer (some ⟨gd, 0, none⟩), .int .i64 (at_ : Int), .slice (some a2) n64 c2] 65)).drew := (below_alloc w3 _).drew
      obtain ⟨w4, hw4⟩ : ∃ w4, (w3.alloc (.cells #[.pointer (some ⟨gd, 0, none⟩), .int .i64 (at_ : Int), .slice (some a2) n64 c2] 65)).drew = w4 := ⟨_, rfl⟩
      obtain ⟨T, hT⟩ : ∃ T, w3.heap.size = T := ⟨_, rfl⟩
      rw [hw4] at hw4r hw4b ⊢
      rw [hT] at hw4r ⊢
      have t0 : w4.cell? ⟨T, 0, none⟩ = some (.pointer (some ⟨gd, 0, none⟩)) := by rw [cell_of_row _ T 0 _ _ (0, 0) hw4r]; rfl
      have t1 : w4.cell? ⟨T, 1, none⟩ = some (.int .i64 (at_ : Int)) := by rw [cell_of_row _ T 1 _ _ (0, 0) hw4r]; rfl
      have t2 : w4.cell? ⟨T, 2, none⟩ = some (.slice (some a2) n64 c2) := by rw [cell_of_row _ T 2 _ _ (0, 0) hw4r]; rfl
      have HB4 : Hid (Below w.heap.size w w4) := HB3.out.trans (hw4b.mono HB3.out.size)
      have CC := calls_added (w := w4) (gd := gd) (at_ := at_) (A := some a2) (k := k) (c := c2) HM.out.2.2.1
      rw [HN.out] at CC
      unfold addedV at CC
      have HR4 := Lib.hid (And.intro hw4r (And.intro hw4b hT))
      have HCC := Lib.hid CC
      clear hw4r hw4b hw4 hT CC e0 e1 e4 d0 d1 d4
      go_wp2_with fail
      refine HCC.out.mono ?_
      rintro e w5 ⟨C, nn, rfl, hb5, hC5, hca⟩
      clear HCC
      have hd5 := HB4.out.trans (hb5.mono HB4.out.size)
      have h5 := H.out.1.below hd5
      have hfrI : In w5 (some a2) (64 * k) (fsecs (m.l.length + 1) xs).flatten := by
        rw [fsecs_flat, HN.out]
        exact (In.of_own HB2.out.2).below ((HB33.out.trans (HR4.out.2.1.mono HB33.out.size)).trans (hb5.mono (Nat.le_trans HB33.out.size HR4.out.2.1.size)))
      have ha2 : w.heap.size ≤ a2.block := by
        rcases HB2.out.2.2 with ⟨e, _⟩ | ⟨g1, cap, cur, e, hg1, _⟩
        · cases e
        · cases e; exact hg1
      have hF := H.out.1.d.2.2
      have hG := H.out.1.s.2
      have CA := call_added (at_ := at_) (k := k) (c := c2) (C := C) (nn := nn) (L := fsecs (m.l.length + 1) xs) h5 (by rw [HN.out]; exact hca) (fun e => by have := hF _ e; have := HB4.out.size; omega) hfrI
        (by rw [fsecs_length, H2.out.2.2.2.2.2.2.2.1, H2.out.2.2.2.2.2.2.1]) (fsecs_sec _ _ H.out.2.2.1) (fun e => by have := hF _ e; omega) HM.out.2.2.2.1 HM.out.2.2.1 (by rw [HN.out]; exact hcap)
        (by have h3 := H2.out.2.2.1; have h8 := H2.out.2.2.2.1; have h4 := H2.out.2.2.2.2.2.1; have h6 := HM.out.2.1; have h7 := HAT.out; omega) H2.out.2.2.2.2.2.2.2.2.1
      have t5 : w5.heap[T]? = some (.cells #[.pointer (some ⟨gd, 0, none⟩), .int .i64 (at_ : Int), .slice (some a2) n64 c2] 65 (0, 0)) := (hb5.block T (Array.getElem?_eq_some_iff.1 HR4.out.1).1).trans HR4.out.1
      rw [HZ.out] at CA
      have hm1l : m1.l = m.l := by
        have e : (m.calls at_ (fsecs (m.l.length + 1) xs)).2.l = m.l := by unfold Sm.calls; split <;> rfl
        rw [HZ.out] at e; exact e
      have H5 := Lib.hid (And.intro hd5 (And.intro t5 (And.intro hF (And.intro hG hm1l))))
      have HCA := Lib.hid CA
      clear hd5 h5 hfrI ha2 hF hG CA t5 hca hb5 hC5 t0 t1 t2 hm1l
      by_cases hz : z = 0
      · subst hz
        go_wp2_with fail
        refine HCA.out.mono ?_
        rintro e w6 ⟨rfl, F', G', hh6, hb6, hf6, hg6⟩
        clear HCA
        have t6 : w6.heap[T]? = some (.cells #[.pointer (some ⟨gd, 0, none⟩), .int .i64 (at_ : Int), .slice (some a2) n64 c2] 65 (0, 0)) := by
          refine (hb6.block T (Array.getElem?_eq_some_iff.1 H5.out.2.1).1 (fun e => ?_)).trans H5.out.2.1
          have hTw : w.heap.size ≤ T := by have := HB3.out.size; have := HR4.out.2.2; omega
          rcases e with e | e
          · have := H5.out.2.2.1 _ e; omega
          · have := H5.out.2.2.2.1 _ e; omega
        have s0 : w6.cell? ⟨T, 0, none⟩ = some (.pointer (some ⟨gd, 0, none⟩)) := by rw [cell_of_row _ T 0 _ _ (0, 0) t6]; rfl
        have s1 : w6.cell? ⟨T, 1, none⟩ = some (.int .i64 (at_ : Int)) := by rw [cell_of_row _ T 1 _ _ (0, 0) t6]; rfl
        have s2 : w6.cell? ⟨T, 2, none⟩ = some (.slice (some a2) n64 c2) := by rw [cell_of_row _ T 2 _ _ (0, 0) t6]; rfl
        have hin6 : In w6 A n xs := in_but0 (H.out.2.1.below H5.out.1) hb6 H.out.2.2.2.2.2
        have hxl := H2.out.2.2.2.2.2.2.2.1
        have KW := keep_went (xs := xs) hh6 ⟨by have := HM.out.2.2.2.2; omega, H.out.2.2.1⟩ (by
          have h1 := H2.out.2.2.2.1; have h2 := H2.out.2.2.2.2.1; have h3 := H2.out.2.2.2.2.2.1; have h4 := H2.out.2.2.2.2.2.2.1; have h5 := HM.out.2.1
          rw [H5.out.2.2.2.2, h2, hxl, h4]; omega) (by have := HM.out.1; omega)
        rw [hxl, H2.out.2.2.2.2.2.2.1, H5.out.2.2.2.2] at KW
        have HKW := Lib.hid KW
        have CCl := Lib.hid (fun (W : World) (hb : Below w6.heap.size w6 W) => clone_bytes A n c xs W (hin6.below hb) H.out.2.2.2.1 H.out.2.2.2.2.1 (by have := HM.out.2.2.2.2; omega))
        have CSe := Lib.hid (fun (W : World) => (by have h := sectors_added (w := W) (gd := gd) (at_ := at_) (A := some a2) (k := k) (c := c2) (by have := HM.out.2.2.1; omega); rw [HN.out] at h; unfold addedV at h; exact h : Calls Tryd.prog 35 #[.agg #[.pointer (some ⟨gd, 0, none⟩), .int .i64 (at_ : Int), .slice (some a2) n64 c2]] W fun e w' => e = .returned (.int .i64 (k : Int)) ∧ Below W.heap.size W w'))
        have H6 := Lib.hid (And.intro hb6 (And.intro hf6 (And.intro hg6 t6)))
        clear hh6 hb6 hf6 hg6 t6 hin6 KW hxl
        go_wp2_with fail
        go_region_law (first
          | (go_simp; go_at_call 34; refine (CCl.out _ (by first | exact (Below.refl _ w6).drew | exact bS)).mono ?_; rintro e w7 ⟨u, rfl, hou, hbc⟩; have bC : Below w6.heap.size w6 w7 := (by first | exact (Below.refl _ w6).drew.trans hbc | exact bS.trans (hbc.mono bS.size)); have s0 := (bC.cell (World.block_lt_of_cell? w6 _ s0)).trans s0; have s1 := (bC.cell (World.block_lt_of_cell? w6 _ s1)).trans s1; have s2 := (bC.cell (World.block_lt_of_cell? w6 _ s2)).trans s2)
          | (go_simp; go_at_call 35; refine (CSe.out _).mono ?_; rintro e w8 ⟨rfl, hbs⟩; have bS : Below w6.heap.size w6 w8 := (by first | exact (Below.refl _ w6).drew.trans hbs | exact bC.trans (hbs.mono bC.size)))
          | (go_simp; go_at_call 33; refine (HKW.out _ u (by first | exact bS | exact bC) (by first | exact own_zero hou | exact own_zero (own_block hou (fun b hb => hbs.block b (own_lt hou hb)))) (fun x hx => ?_)).mono ?_; (first | exact (hou.lt x hx).1 | exact Nat.le_trans bS.size (hou.lt x hx).1); rintro e w9 ⟨rfl, hw9⟩))
        all_goals
          go_wp2
          go_ret
          refine ⟨rfl, ?_⟩
          exact Went.after H5.out.1 (went_then H6.out.1 H6.out.2.1 H6.out.2.2.1 hw9)
      · have hzi : (z != 0) = true := by simpa using hz
        go_wp2_with fail
        refine HCA.out.mono ?_
        rintro e w6 ⟨rfl, hw6⟩
        go_wp2
        go_ret
        exact ⟨rfl, hw6.after H5.out.1⟩

end Go.Proofs.YtjkohceigdfmjaaDoor

/-
  SameBytes.
-/
namespace Go.Proofs.YtjkohceigdfmjaaDoor
open Go.RowKit

set_option maxRecDepth 100000 in
set_option maxHeartbeats 400000 in
theorem sameBytes_yes (A A2 : Option Addr) (n c c2 : Nat) (xs : List Nat) (w : World) (hin : In w A n xs) (hin2 : In w A2 n xs) (hn : n ≤ 200000000000000) :
    Calls Tryd.prog 39 #[.slice A n c, .slice A2 n c2] w fun e w' => e = .returned (.bool true) ∧ ∃ q, w' = w.drewN q := by
  have dn : ((n : Int) != (n : Int)) = false := by simp
  go_enter Tryd.func39, Tryd.ntmps39
  go_wp2
  go_loopw [5] (fun i wr => ∃ j : Nat, j ≤ n ∧ i = .int .i64 (j : Int) ∧ ∃ q, wr = w.drewN q) (fun i _ => n - (intOf i).toNat)
  case atStart => exact ⟨0, Nat.zero_le _, rfl, 0, rfl⟩
  case round =>
    obtain ⟨j, hj, rfl, q, rfl⟩ := hrel
    by_cases hlt : j < n
    · obtain ⟨ad, x, rfl, hx, hc1⟩ := hin.at_ hlt
      obtain ⟨ad2, x2, rfl, hx2, hc2⟩ := hin2.at_ hlt
      obtain rfl : x2 = x := by rw [hx] at hx2; injection hx2 with h; exact h.symm
      clear hx hx2
      have i1 : (j : Int) < (n : Int) := by omega
      go_wp2
      go_quiet (fail)
      rw [World.drewN_drewN]
      go_wp2
      go_roundw
      case rel => exact ⟨j + 1, by omega, by go_num, q + nq, rfl⟩
      case measure => simp [intOf]; omega
    · go_wp2
      go_ret
      exact ⟨rfl, q, rfl⟩

end Go.Proofs.YtjkohceigdfmjaaDoor

/-
  has, small: what the statements ask of a store, and of records.
-/
namespace Go.Proofs.YtjkohceigdfmjaaDoor
open Go.RowKit

theorem below_drewN (w : World) (q : Nat) : Below w.heap.size w (w.drewN q) := ⟨rfl, rfl, rfl, Nat.le_refl _, fun _ _ => rfl⟩

set_option maxRecDepth 100000 in
set_option maxHeartbeats 1000000 in
/-- has, where it has. -/
theorem has_yes {w : World} {g gd from_ many : Nat} {G : Nat → Prop} {l R : List (List Nat)} {down : Bool} {A : Option Addr} {n c : Nat} (h : Sto w g gd from_ many G l down) (hr : CameRows w A n R) (hp : ∀ (k : Nat) (b : List Nat), l[k]? = some b → R[k]? = some b) (hn : l.length ≤ n) (hn2 : n ≤ 1000000) :
    Calls Tryd.prog 14 #[.pointer (some ⟨g, 0, none⟩), .slice A n c] w fun e w' => e = .returned (.bool true) ∧ Below w.heap.size w w' := by
  have CL := fun (W : World) (hb : Below w.heap.size w W) => (by obtain ⟨⟨v, vals, hh⟩, _⟩ := h.below hb; exact slen_sto hh : Calls Tryd.prog 15 #[.pointer (some ⟨g, 0, none⟩)] W fun e w' => e = .returned (.int .i64 (l.length : Int)) ∧ W = w')
  have CG := fun (k : Nat) (b : List Nat) (W : World) (hb : Below w.heap.size w W) (hk : l[k]? = some b) => (by obtain ⟨⟨v, vals, hh⟩, _⟩ := h.below hb; exact get_sto hh hk : Calls Tryd.prog 22 #[.pointer (some ⟨g, 0, none⟩), .int .i64 (k : Int)] W fun e w' => ∃ u, e = .returned (.tuple #[u, .int .i64 0]) ∧ w'.ownsRow W.heap.size 5 1 u b.length (bvs b) ∧ Below W.heap.size W w')
  have hok := h.ok
  have HL := Lib.hid CL
  have HG := Lib.hid CG
  have HR := Lib.hid (And.intro hr (And.intro hp hok))
  have q0 : ¬ (n : Int) < (l.length : Int) := by omega
  have q1 : ¬ n < l.length := by omega
  clear CL CG hr hp hok h
  go_enter Tryd.func14, Tryd.ntmps14
  go_wp2_with (first | (go_at_call 15; refine (HL.out _ (Below.refl _ _)).mono ?_; rintro e w1 ⟨rfl, rfl⟩))
  go_loopw [5] (fun i wr => ∃ j : Nat, j ≤ l.length ∧ i = .int .i64 (j : Int) ∧ Hid (Below w.heap.size w wr)) (fun i _ => l.length - (intOf i).toNat)
  case atStart => exact ⟨0, Nat.zero_le _, rfl, Below.refl _ _⟩
  case round =>
    obtain ⟨j, hj, rfl, hb⟩ := hrel
    by_cases hlt : j < l.length
    · obtain ⟨b, hbj⟩ : ∃ b, l[j]? = some b := ⟨_, List.getElem?_eq_getElem hlt⟩
      have hji : (j : Int) < (l.length : Int) := by omega
      have hRj := HR.out.2.1 j b hbj
      obtain ⟨ad, B, m, d, rfl, hcell, hcame, hm⟩ := HR.out.1.row j b hRj
      have hbl := (HR.out.2.2 b (List.mem_of_getElem? hbj)).1
      have hmb : m = b.length := hcame.in_.len.symm
      subst hmb
      have HB := Lib.hid (And.intro hbj (And.intro hcell (And.intro hcame hbl)))
      have hjn : (j : Int) < (n : Int) := by omega
      clear hbj hRj hcell hcame hbl
      go_wp2_with (first
        | (go_at_call 15; refine (HL.out _ hb.out).mono ?_; rintro e w1 ⟨rfl, rfl⟩)
        | (go_at_call 22; refine (HG.out j b _ hb.out HB.out.1).mono ?_; rintro e w1 ⟨u, rfl, ho, hb1⟩
           obtain ⟨A1, c1, rfl⟩ := own_form ho
           have hb2 : Hid (Below w.heap.size w w1) := below_on hb.out (Nat.le_refl _) hb1
           have hc2 : w1.cell? (ad.add j) = some (.slice B b.length d) := (hb2.out.cell (World.block_lt_of_cell? w _ HB.out.2.1)).trans HB.out.2.1
           have CS := Lib.hid (sameBytes_yes A1 B b.length c1 d b w1 (In.of_own ho) (HB.out.2.2.1.in_.below hb2.out) (by have := HB.out.2.2.2; omega))
           clear ho hb1)
        | (go_at_call 39; refine CS.out.mono ?_; rintro e w2 ⟨rfl, q, rfl⟩))
      go_roundw
      case rel => exact ⟨j + 1, by omega, by go_num, below_on hb2.out (Nat.le_refl _) (below_drewN _ _)⟩
      case measure => simp [intOf]; omega
    · obtain rfl : j = l.length := by omega
      have hji : decide ((l.length : Int) < (l.length : Int)) = false := by simp
      go_wp2_with (first | (go_at_call 15; refine (HL.out _ hb.out).mono ?_; rintro e w1 ⟨rfl, rfl⟩))
      go_ret
      exact ⟨rfl, hb.out⟩

/-- Records that may be. -/
def Small (R : List (List Nat)) : Prop := R.length ≤ 30 ∧ ∀ b ∈ R, b.length ≤ 256
set_option maxRecDepth 100000 in
set_option maxHeartbeats 1000000 in
theorem small_any {w : World} {R : List (List Nat)} {A : Option Addr} {n c : Nat} (hr : CameRows w A n R) (hn2 : n ≤ 140737488355328) :
    Calls Tryd.prog 8 #[.slice A n c] w fun e w' => ∃ z, e = .returned (.bool z) ∧ w = w' ∧ (z = true ↔ Small R) := by
  have hlen := hr.len
  by_cases h30 : 30 < n
  · have hi : (30 : Int) < (n : Int) := by omega
    go_enter Tryd.func8, Tryd.ntmps8
    go_wp2
    go_ret
    refine ⟨_, rfl, rfl, ?_⟩
    unfold Small
    constructor
    · intro h; cases h
    · intro h; omega
  · have hi : ¬ (30 : Int) < (n : Int) := by omega
    have HR := Lib.hid hr
    clear hr
    go_enter Tryd.func8, Tryd.ntmps8
    go_wp2
    go_loopw [3] (fun i wr => ∃ j : Nat, j ≤ n ∧ i = .int .i64 (j : Int) ∧ wr = w ∧ Hid (∀ k b, k < j → R[k]? = some b → b.length ≤ 256)) (fun i _ => n - (intOf i).toNat)
    case atStart => exact ⟨0, Nat.zero_le _, rfl, rfl, Lib.hid (fun k b hk => by omega)⟩
    case round =>
      obtain ⟨j, hj, rfl, rfl, hs⟩ := hrel
      by_cases hlt : j < n
      · obtain ⟨b, hbj⟩ : ∃ b, R[j]? = some b := ⟨_, List.getElem?_eq_getElem (by omega)⟩
        have hji : (j : Int) < (n : Int) := by omega
        obtain ⟨ad, B, m, d, rfl, hcell, hcame, hm⟩ := HR.out.row j b hbj
        have hmb : m = b.length := hcame.in_.len.symm
        have HB := Lib.hid (And.intro hbj hmb)
        clear hbj hcame hmb
        by_cases hbig : 256 < m
        · have hbi : (256 : Int) < (m : Int) := by omega
          go_wp2
          go_ret
          refine ⟨_, rfl, rfl, ?_⟩
          constructor
          · intro h; cases h
          · intro h
            have := h.2 b (List.mem_of_getElem? HB.out.1)
            have := HB.out.2
            omega
        · have hbi : ¬ (256 : Int) < (m : Int) := by omega
          go_wp2
          go_roundw
          case rel => exact ⟨j + 1, by omega, by go_num, trivial, Lib.hid (fun k b2 hk hb2 => by
            by_cases e : k = j
            · subst e
              have h1 := HB.out.1
              rw [hb2] at h1
              cases h1
              have := HB.out.2
              omega
            · exact hs.out k b2 (by omega) hb2)⟩
          case measure => simp [intOf]; omega
      · obtain rfl : j = n := by omega
        have hji : decide ((j : Int) < (j : Int)) = false := by simp
        go_wp2
        go_ret
        refine ⟨_, rfl, rfl, ?_⟩
        constructor
        · intro _
          refine ⟨by omega, fun b hb => ?_⟩
          obtain ⟨k, hk⟩ := List.mem_iff_getElem?.1 hb
          exact hs.out k b (by have := (List.getElem?_eq_some_iff.1 hk).1; omega) hk
        · intro _; rfl

end Go.Proofs.YtjkohceigdfmjaaDoor

/-
  A store on a disk, all of it laid since a world w.
-/
namespace Go.Proofs.YtjkohceigdfmjaaDoor
open Go.RowKit

/-- O: blocks that it keeps off. -/
def Live (w W : World) (O : Nat → Prop) (gd sb from_ many : Nat) (m : Sm) : Prop := ∃ F G, Held_ W gd sb from_ many m F G ∧ (∀ x, F x ∨ G x → w.heap.size ≤ x ∧ ¬ O x) ∧ (∀ x, O x → x < W.heap.size) ∧ Below w.heap.size w W
section
variable {w W W' : World} {O O' : Nat → Prop} {gd sb from_ many : Nat} {m m' : Sm}
theorem Live.bel (h : Live w W O gd sb from_ many m) : Below w.heap.size w W := by obtain ⟨F, G, _, _, _, hb⟩ := h; exact hb
theorem Live.below (h : Live w W O gd sb from_ many m) (hb : Below W.heap.size W W') : Live w W' O gd sb from_ many m := by
  obtain ⟨F, G, hh, hl, ho, h0⟩ := h
  exact ⟨F, G, hh.below hb, hl, fun x hx => Nat.lt_of_lt_of_le (ho x hx) hb.size, h0.trans (hb.mono h0.size)⟩
/-- New blocks to keep off. -/
theorem Live.off (h : Live w W O gd sb from_ many m) (hb : Below W.heap.size W W') (hO : ∀ x, O' x → O x ∨ (W.heap.size ≤ x ∧ x < W'.heap.size)) : Live w W' O' gd sb from_ many m := by
  obtain ⟨F, G, hh, hl, ho, h0⟩ := h
  refine ⟨F, G, hh.below hb, fun x hx => ⟨(hl x hx).1, fun e => ?_⟩, fun x hx => ?_, h0.trans (hb.mono h0.size)⟩
  · rcases hO x e with k | k
    · exact (hl x hx).2 k
    · rcases hx with e | e
      · have := hh.d.2.2 x e; omega
      · have := hh.s.2 x e; omega
  · rcases hO x hx with k | k
    · exact Nat.lt_of_lt_of_le (ho x k) hb.size
    · exact k.2
theorem Live.sto (h : Live w W O gd sb from_ many m) : ∃ G, Sto W sb gd from_ many G m.l m.down := by obtain ⟨F, G, hh, _⟩ := h; exact ⟨G, hh.s⟩
theorem Live.disk (h : Live w W O gd sb from_ many m) : ∃ F, Disk W gd F m.st := by obtain ⟨F, G, hh, _⟩ := h; exact ⟨F, hh.d⟩
theorem live_went {F G : Nat → Prop} (hl : ∀ x, F x ∨ G x → w.heap.size ≤ x ∧ ¬ O x) (ho : ∀ x, O x → x < W.heap.size) (h0 : Below w.heap.size w W) (h : Went W gd sb from_ many F G m' W') : Live w W' O gd sb from_ many m' ∧ But (fun x => ¬ O x) W W' := by
  obtain ⟨F', G', hh, hb, hf, hg⟩ := h
  refine ⟨⟨F', G', hh, fun x hx => ?_, fun x hx => Nat.lt_of_lt_of_le (ho x hx) hb.size, h0.trans (hb.below h0.size (fun x hx => (hl x hx).1))⟩, hb.mono (fun x _ e => (hl x e).2)⟩
  have h1 : (F x ∨ G x) ∨ W.heap.size ≤ x := by
    rcases hx with e | e
    · exact (hf x e).imp .inl id
    · exact (hg x e).imp .inr id
  rcases h1 with k | k
  · exact hl x k
  · exact ⟨Nat.le_trans h0.size k, fun e => by have := ho x e; omega⟩
theorem live_add {A : Option Addr} {n c : Nat} {xs : List Nat} (h : Live w W O gd sb from_ many m) (hb : Below W.heap.size W W') (hin : In W' A n xs) (hx : ∀ x ∈ xs, x < 256) (hA : A = none → c = 0) (hnc : n ≤ c) (hAF : ∀ ad, A = some ad → 0 < n → ad.block < w.heap.size ∨ W.heap.size ≤ ad.block) (hw : m.st.waits.length ≤ 800000) :
    Calls Tryd.prog 11 #[.pointer (some ⟨sb, 0, none⟩), .slice A n c] W' fun e w' => e = .returned (.int .i64 (m.add from_ many xs).1) ∧ Live w w' O gd sb from_ many (m.add from_ many xs).2 ∧ But (fun x => ¬ O x) W' w' := by
  obtain ⟨F, G, hh, hl, ho, h0⟩ := h
  refine (sadd_any (hh.below hb) hin hx hA hnc (fun ad e hn k => ?_) hw).mono fun e w' ⟨he, hw'⟩ => ⟨he, live_went hl (fun x hx => Nat.lt_of_lt_of_le (ho x hx) hb.size) (h0.trans (hb.mono h0.size)) hw'⟩
  rcases hAF ad e hn with k1 | k1
  · have := (hl _ k).1; omega
  · rcases k with k | k
    · have := hh.d.2.2 _ k; omega
    · have := hh.s.2 _ k; omega
theorem live_sync (h : Live w W O gd sb from_ many m) :
    Calls Tryd.prog 12 #[.pointer (some ⟨sb, 0, none⟩)] W fun e w' => e = .returned (.int .i64 m.sync.1) ∧ Live w w' O gd sb from_ many m.sync.2 ∧ But (fun x => ¬ O x) W w' := by
  obtain ⟨F, G, hh, hl, ho, h0⟩ := h
  exact (ssync_any hh).mono fun e w' ⟨he, hw'⟩ => ⟨he, live_went hl ho h0 hw'⟩
theorem live_len (h : Live w W O gd sb from_ many m) :
    Calls Tryd.prog 15 #[.pointer (some ⟨sb, 0, none⟩)] W fun e w' => e = .returned (.int .i64 (m.l.length : Int)) ∧ W = w' := by
  obtain ⟨G, ⟨v, vals, hh⟩, _⟩ := h.sto
  exact slen_sto hh
theorem live_left (h : Live w W O gd sb from_ many m) :
    Calls Tryd.prog 19 #[.pointer (some ⟨sb, 0, none⟩)] W fun e w' => e = .returned (.int .i64 ((many - usedL m.l : Nat) : Int)) ∧ Below W.heap.size W w' := by
  obtain ⟨F, G, hh, _⟩ := h
  have h1 := hh.fits
  have h2 := hh.d.1.le
  obtain ⟨⟨v, vals, h3⟩, _⟩ := hh.s
  exact left_sto h3 (by omega)
theorem live_waits (h : Live w W O gd sb from_ many m) :
    Calls Tryd.prog 20 #[.pointer (some ⟨gd, 0, none⟩)] W fun e w' => e = .returned (.int .i64 (m.st.waits.length : Int)) ∧ W = w' := by
  obtain ⟨F, h1⟩ := h.disk
  exact waits_any h1
end

/-- A new disk, and a store on it. -/
theorem live_open {w W : World} {gd n from_ many : Nat} (E : Errs) (hE : Laid w E) (hb0 : Below w.heap.size w W) {F : Nat → Prop} {st : St} (h : Disk W gd F st) (hF : ∀ x, F x → w.heap.size ≤ x) (hn : 1 ≤ many) (hf : from_ + many ≤ n) (hs : st.sure.length = n) (hz : regionL st.read from_ many = List.replicate many nought) (hl : st.lets = -1) (hw : st.waits.length ≤ 800000) :
    Calls Tryd.prog 10 #[.pointer (some ⟨gd, 0, none⟩), .int .i64 (from_ : Int), .int .i64 (many : Int)] W fun e w' => ∃ sb, e = .returned (.tuple #[.pointer (some ⟨sb, 0, none⟩), .int .i64 0]) ∧ Live w w' (fun _ => False) gd sb from_ many ⟨⟨st.read, [], -1, st.blown⟩, [], false⟩ := by
  refine (open_region (l := []) (r := many) E (fun W' hb => hE.below (hb0.trans (hb.below hb0.size hF))) h hn (by omega) hw hl (fun b hb => by cases hb) (by rw [usedL_nil]; omega) (by rw [hz]; rfl)).mono ?_
  rintro e w' ⟨sb, F', G', he, hh, hbt, hf', hg'⟩
  refine ⟨sb, he, F', G', hh, fun x hx => ⟨?_, fun e => e⟩, fun x e => e.elim, hb0.trans (hbt.below hb0.size hF)⟩
  rcases hx with k | k
  · exact (hf' x k).elim (hF x) (fun e => Nat.le_trans hb0.size e)
  · exact Nat.le_trans hb0.size (hg' x k)

set_option maxRecDepth 100000 in
set_option maxHeartbeats 1000000 in
theorem opened_any {w W : World} {gd many r : Nat} {F : Nat → Prop} {st : St} {l : List (List Nat)} {A : Option Addr} {n c : Nat} {ks : List Bool} (E : Errs) (hE : Laid w E) (hb0 : Below w.heap.size w W) (h : Disk W gd F st) (hk : InB W A n ks) (hn : 1 ≤ many) (hf : many ≤ st.sure.length)
    (hb : ∀ b ∈ l, b.length ≤ 256) (hr : usedL l + r = many) (hreg : regionL (settle st.sure (kept st.waits ks)) 0 many = lsecs 0 l ++ List.replicate r nought) :
    Calls Tryd.prog 17 #[.pointer (some ⟨gd, 0, none⟩), .int .i64 (many : Int), .slice A n c] W fun e w' => ∃ g2 sb, e = .returned (.pointer (some ⟨sb, 0, none⟩)) ∧ Live W w' (fun _ => False) g2 sb 0 many ⟨⟨settle st.sure (kept st.waits ks), [], -1, false⟩, l, false⟩ := by
  have CF := fail_any A n c ks hk h
  obtain ⟨R, hR⟩ : ∃ R, settle st.sure (kept st.waits ks) = R := ⟨_, rfl⟩
  have hRl : many ≤ R.length := by rw [← hR, settle_length]; exact hf
  rw [hR] at CF hreg ⊢
  have CO := fun (g : Nat) (W1 : World) (hM : Made W (fresh R) g W1) => open_region (l := l) (r := r) (from_ := 0) (many := many) E (fun W' hbt => hE.below ((hb0.trans (hM.2.mono hb0.size)).trans (hbt.below (Nat.le_trans hb0.size hM.2.size) (fun x hx => Nat.le_trans hb0.size hx.1)))) hM.1 hn (by show 0 + many ≤ R.length; omega) (by show ([] : List (Nat × List Nat)).length ≤ _; simp) rfl hb hr hreg
  have HO := Lib.hid CO
  clear CO h hk hreg hR
  go_enter Tryd.func17, Tryd.ntmps17
  go_wp2_with fail
  refine CF.mono ?_
  rintro e w1 ⟨g', rfl, hM⟩
  have C2 := Lib.hid (HO.out g' w1 hM)
  have HMb := Lib.hid hM.2
  clear CF hM HO
  go_wp2_with fail
  refine C2.out.mono ?_
  rintro e w2 ⟨sb, F', G', rfl, hh, hbt, hf', hg'⟩
  go_wp2
  go_ret
  refine ⟨g', sb, rfl, F', G', hh, fun x hx => ⟨?_, fun e => e⟩, fun x e => e.elim, HMb.out.trans (hbt.below HMb.out.size (fun x hx => hx.1))⟩
  rcases hx with k | k
  · exact (hf' x k).elim (fun e => e.1) (fun e => Nat.le_trans HMb.out.size e)
  · exact Nat.le_trans HMb.out.size (hg' x k)

end Go.Proofs.YtjkohceigdfmjaaDoor

/-
  A store whose region is neat: what is read of it are its records and noughts; what a failure leaves of it are these, or all but the newest one.
-/
namespace Go.Proofs.YtjkohceigdfmjaaDoor
open Go.RowKit

/-- What a region may be behind a failure: records and noughts, or, behind the records, a first sector that was not made and the rest of its record. -/
def Rest (l : List (List Nat)) (many : Nat) (Z : List (List Nat)) : Prop :=
  usedL l ≤ many ∧ (Z = lsecs 0 l ++ List.replicate (many - usedL l) nought ∨ ∃ T r, T.length ≤ 4 ∧ usedL l + 1 + T.length + r = many ∧ Z = lsecs 0 l ++ nought :: (T ++ List.replicate r nought))

/-- s: how many records are sure. -/
structure Neat (from_ many s : Nat) (m : Sm) : Prop where
  lets : m.st.lets = -1
  up : m.down = false
  fits : usedL m.l ≤ many
  small : ∀ b ∈ m.l, b.length ≤ 256
  few : m.st.waits.length ≤ 1
  reg : regionL m.st.read from_ many = lsecs 0 m.l ++ List.replicate (many - usedL m.l) nought
  keeps : ∀ ks, Rest m.l many (regionL (settle m.st.sure (kept m.st.waits ks)) from_ many) ∨ (s < m.l.length ∧ Rest m.l.dropLast many (regionL (settle m.st.sure (kept m.st.waits ks)) from_ many))
  le : s ≤ m.l.length

theorem kept_nil (ks : List Bool) : kept [] ks = [] := by
  apply List.eq_nil_iff_forall_not_mem.2
  intro x hx
  have := pick_mem hx
  cases this
theorem neat_sure {from_ many : Nat} {R l : List (List Nat)} {b : Bool} (hf : usedL l ≤ many) (hs : ∀ b ∈ l, b.length ≤ 256) (hr : regionL R from_ many = lsecs 0 l ++ List.replicate (many - usedL l) nought) : Neat from_ many l.length ⟨⟨R, [], -1, b⟩, l, false⟩ :=
  ⟨rfl, rfl, hf, hs, Nat.zero_le _, hr, fun ks => .inl ⟨hf, .inl (by show regionL (settle R (kept [] ks)) from_ many = _; rw [kept_nil, settle_nil]; exact hr)⟩, Nat.le_refl _⟩
theorem neat_put {from_ many s : Nat} {m : Sm} {xs : List Nat} (h : Neat from_ many s m) (h1 : xs.length ≤ 256) (hx : ∀ x ∈ xs, x < 256) (h2 : secs xs.length ≤ many - usedL m.l) :
    (m.add from_ many xs).1 = 0 ∧ (m.add from_ many xs).2.l = m.l ++ [xs] ∧ Neat from_ many s (m.add from_ many xs).2 := by
  have e := add_free (from_ := from_) (many := many) h.lets h.up h1 hx h2
  have hf := h.fits
  have h0 : usedL m.l + (many - usedL m.l) = many := by omega
  obtain ⟨a1, a2, a3⟩ := add_neat h.lets h.up h1 hx h0 h2 h.reg
  have hk := fun ks => kept_neat (ks := ks) h.lets h.up h1 hx h0 h2 h.reg
  obtain ⟨r, hr⟩ : ∃ r, m.add from_ many xs = r := ⟨_, rfl⟩
  have hl : r.2.l = m.l ++ [xs] := by rw [← hr, e]
  have hu := usedL_snoc m.l xs
  have hm : many - usedL m.l - secs xs.length = many - usedL (m.l ++ [xs]) := by omega
  rw [hr] at a1 a2 a3 hk ⊢
  refine ⟨by rw [← hr, e], hl, by rw [← hr, e], by rw [← hr, e], by rw [hl]; omega, ?_, by rw [a3]; exact Nat.le_refl _, by rw [hl, ← hm]; exact a1, fun ks => ?_, by rw [hl, List.length_append]; have := h.le; omega⟩
  · rw [hl]; intro b hb
    rcases List.mem_append.1 hb with k | k
    · exact h.small b k
    · rw [List.mem_singleton.1 k]; exact h1
  · rw [hl, List.dropLast_concat]
    rcases hk ks with ⟨_, k⟩ | ⟨_, k⟩
    · exact .inl ⟨by omega, .inl (by rw [← hm]; exact k)⟩
    · refine .inr ⟨by rw [List.length_append]; have := h.le; simp; omega, hf, .inr ⟨_, _, ?_, ?_, k⟩⟩
      · rw [List.length_tail, fsecs_length]; have := secs_le xs.length h1; omega
      · rw [List.length_tail, fsecs_length]; have := secs_pos xs.length; omega
theorem neat_sync {from_ many s : Nat} {m : Sm} (h : Neat from_ many s m) : m.sync.1 = 0 ∧ m.sync.2.l = m.l ∧ Neat from_ many m.l.length m.sync.2 := by
  have e1 : m.sync = (0, ⟨⟨m.st.read, [], -1, m.st.blown⟩, m.l, false⟩) := by
    unfold Sm.sync
    rw [if_neg (by rw [h.up]; decide), sc_free h.lets, sn_free h.lets]
    rfl
  rw [e1]
  exact ⟨rfl, rfl, neat_sure h.fits h.small h.reg⟩

section
variable {w W W' : World} {O : Nat → Prop} {gd sb from_ many s : Nat} {m : Sm}
theorem live_put {A : Option Addr} {n c : Nat} {b : List Nat} (h : Live w W O gd sb from_ many m) (hn : Neat from_ many s m) (hb : Below W.heap.size W W') (hin : Came w A n c b) (h1 : n ≤ 256) (h2 : secs n ≤ many - usedL m.l) :
    Calls Tryd.prog 11 #[.pointer (some ⟨sb, 0, none⟩), .slice A n c] W' fun e w' => e = .returned (.int .i64 0) ∧ But (fun x => ¬ O x) W' w' ∧ ∃ m', Live w w' O gd sb from_ many m' ∧ Neat from_ many s m' ∧ m'.l = m.l ++ [b] := by
  have hl := hin.in_.len
  have h3 := live_add h hb (hin.in_.below (h.bel.trans (hb.mono h.bel.size))) hin.lt hin.nil hin.cap (fun ad e h0 => .inl (by
    obtain ⟨ad', x, e1, _, hc⟩ := hin.in_.at_ h0
    rw [e] at e1; cases e1
    have := World.block_lt_of_cell? w _ hc
    rw [block_add] at this; exact this)) (Nat.le_trans hn.few (by decide))
  obtain ⟨e1, e2, e3⟩ := neat_put hn (xs := b) (by omega) hin.lt (by rw [hl]; exact h2)
  rw [e1] at h3
  exact h3.mono fun e w' ⟨he, hw, hbt⟩ => ⟨he, hbt, _, hw, e3, e2⟩
theorem live_sure (h : Live w W O gd sb from_ many m) (hn : Neat from_ many s m) :
    Calls Tryd.prog 12 #[.pointer (some ⟨sb, 0, none⟩)] W fun e w' => e = .returned (.int .i64 0) ∧ But (fun x => ¬ O x) W w' ∧ ∃ m', Live w w' O gd sb from_ many m' ∧ Neat from_ many m.l.length m' ∧ m'.l = m.l := by
  obtain ⟨e1, e2, e3⟩ := neat_sync hn
  have h1 := live_sync h
  rw [e1] at h1
  exact h1.mono fun e w' ⟨he, hw, hbt⟩ => ⟨he, hbt, _, hw, e3, e2⟩
/-- What is left of the disk. -/
theorem live_fail {A : Option Addr} {n c : Nat} {ks : List Bool} (h : Live w W O gd sb from_ many m) (hk : InB W A n ks) :
    Calls Tryd.prog 13 #[.pointer (some ⟨gd, 0, none⟩), .slice A n c] W fun e w' => ∃ g', e = .returned (.tuple #[.pointer (some ⟨g', 0, none⟩), .int .i64 0]) ∧ Made W (fresh (settle m.st.sure (kept m.st.waits ks))) g' w' := by
  obtain ⟨F, hd⟩ := h.disk
  exact fail_any A n c ks hk hd
theorem Live.far (h : Live w W O gd sb from_ many m) : from_ + many ≤ m.st.sure.length := by obtain ⟨F, G, hh, _⟩ := h; exact hh.fits
end

/-- Open, whatever a failure left. -/
theorem open_rest {w W : World} {gd from_ many : Nat} {F : Nat → Prop} {st : St} {l : List (List Nat)} (E : Errs) (hE : Laid w E) (hb0 : Below w.heap.size w W) (h : Disk W gd F st) (hF : ∀ x, F x → w.heap.size ≤ x) (hn : 1 ≤ many) (hf : from_ + many ≤ st.sure.length) (hw : st.waits.length ≤ 800000) (hl : st.lets = -1)
    (hs : ∀ b ∈ l, b.length ≤ 256) (hr : Rest l many (regionL st.read from_ many)) :
    Calls Tryd.prog 10 #[.pointer (some ⟨gd, 0, none⟩), .int .i64 (from_ : Int), .int .i64 (many : Int)] W fun e w' => ∃ sb m, e = .returned (.tuple #[.pointer (some ⟨sb, 0, none⟩), .int .i64 0]) ∧ Live w w' (fun _ => False) gd sb from_ many m ∧ Neat from_ many l.length m ∧ m.l = l ∧ m.st.waits = [] ∧ But F W w' := by
  have hE' := fun W' (hb : But F W W') => hE.below (hb0.trans (hb.below hb0.size hF))
  have fin : ∀ (w' : World) (sb : Nat) (R : List (List Nat)) (F' G' : Nat → Prop), Held_ w' gd sb from_ many ⟨⟨R, [], -1, st.blown⟩, l, false⟩ F' G' → regionL R from_ many = lsecs 0 l ++ List.replicate (many - usedL l) nought → But F W w' → (∀ x, F' x → F x ∨ W.heap.size ≤ x) → (∀ x, G' x → W.heap.size ≤ x) →
      ∃ m, Live w w' (fun _ => False) gd sb from_ many m ∧ Neat from_ many l.length m ∧ m.l = l ∧ m.st.waits = [] ∧ But F W w' := by
    intro w' sb R F' G' hh hreg hbt hf' hg'
    refine ⟨_, ⟨F', G', hh, fun x hx => ⟨?_, fun e => e⟩, fun x e => e.elim, hb0.trans (hbt.below hb0.size hF)⟩, neat_sure hr.1 hs hreg, rfl, rfl, hbt⟩
    rcases hx with k | k
    · exact (hf' x k).elim (hF x) (fun e => Nat.le_trans hb0.size e)
    · exact Nat.le_trans hb0.size (hg' x k)
  obtain ⟨hu, hZ | ⟨T, r, hT, hsum, hZ⟩⟩ := hr
  · refine (open_region E hE' h hn hf hw hl hs (by omega : usedL l + (many - usedL l) = many) hZ).mono ?_
    rintro e w' ⟨sb, F', G', he, hh, hbt, hf', hg'⟩
    obtain ⟨m, hm⟩ := fin w' sb _ F' G' hh hZ hbt hf' hg'
    exact ⟨sb, m, he, hm⟩
  · refine (open_soiled E hE' h hf hw hl hs hT hsum hZ).mono ?_
    rintro e w' ⟨sb, R, F', G', he, hh, hreg, hbt, hf', hg'⟩
    obtain ⟨m, hm⟩ := fin w' sb _ F' G' hh (by rw [hreg]; congr 2; omega) hbt hf' hg'
    exact ⟨sb, m, he, hm⟩

end Go.Proofs.YtjkohceigdfmjaaDoor

/-
  Two stores on one disk, in regions that share no sector.
-/
namespace Go.Proofs.YtjkohceigdfmjaaDoor
open Go.RowKit

theorem region_out {R : List (List Nat)} {f k i : Nat} {x : List Nat} (h : i < f ∨ f + k ≤ i) : regionL (R.set i x) f k = regionL R f k := by
  unfold regionL
  apply List.ext_getElem?
  intro j
  rw [List.getElem?_take, List.getElem?_take]
  by_cases hj : j < k
  · rw [if_pos hj, if_pos hj, List.getElem?_drop, List.getElem?_drop, List.getElem?_set_ne (by omega)]
  · rw [if_neg hj, if_neg hj]
theorem region_outs {R : List (List Nat)} {f k i : Nat} {L : List (List Nat)} (h : i + L.length ≤ f ∨ f + k ≤ i) : regionL (setAll R i L) f k = regionL R f k := by
  induction L generalizing R i with
  | nil => rfl
  | cons x L ih =>
    rw [List.length_cons] at h
    rw [setAll, ih (by omega), region_out (by omega)]

structure Two (v W : World) (O : Nat → Prop) (gd s1 f1 k1 : Nat) (l1 : List (List Nat)) (s2 f2 k2 : Nat) (l2 : List (List Nat)) (st : St) : Prop where
  ex : ∃ F G1 G2, Disk W gd F st ∧ Sto W s1 gd f1 k1 G1 l1 false ∧ Sto W s2 gd f2 k2 G2 l2 false ∧ (∀ x, F x → ¬ G1 x) ∧ (∀ x, F x → ¬ G2 x) ∧ (∀ x, G1 x → ¬ G2 x) ∧ ∀ x, F x ∨ G1 x ∨ G2 x → v.heap.size ≤ x ∧ ¬ O x
  ho : ∀ x, O x → v.heap.size ≤ x ∧ x < W.heap.size
  bel : Below v.heap.size v W
  lets : st.lets = -1
  few : st.waits.length ≤ 1
  far1 : f1 + k1 ≤ st.sure.length
  far2 : f2 + k2 ≤ st.sure.length
  reg1 : regionL st.read f1 k1 = lsecs 0 l1 ++ List.replicate (k1 - usedL l1) nought
  reg2 : regionL st.read f2 k2 = lsecs 0 l2 ++ List.replicate (k2 - usedL l2) nought
  far : f1 + k1 ≤ f2 ∨ f2 + k2 ≤ f1
section
variable {v W W' : World} {O O' : Nat → Prop} {gd s1 f1 k1 s2 f2 k2 : Nat} {l1 l2 : List (List Nat)} {st : St}
theorem Two.symm (h : Two v W O gd s1 f1 k1 l1 s2 f2 k2 l2 st) : Two v W O gd s2 f2 k2 l2 s1 f1 k1 l1 st := by
  obtain ⟨F, G1, G2, hd, h1, h2, a1, a2, a3, a4⟩ := h.ex
  exact ⟨⟨F, G2, G1, hd, h2, h1, a2, a1, fun x hx hg => a3 x hg hx, fun x hx => a4 x (hx.imp id Or.symm)⟩, h.ho, h.bel, h.lets, h.few, h.far2, h.far1, h.reg2, h.reg1, h.far.symm⟩
/-- Blocks of O alone were changed; O' are some of these, and new ones. -/
theorem Two.step (h : Two v W O gd s1 f1 k1 l1 s2 f2 k2 l2 st) (hb : But O W W') (hO : ∀ x, O' x → O x ∨ (W.heap.size ≤ x ∧ x < W'.heap.size)) : Two v W' O' gd s1 f1 k1 l1 s2 f2 k2 l2 st := by
  obtain ⟨F, G1, G2, hd, h1, h2, a1, a2, a3, a4⟩ := h.ex
  refine ⟨⟨F, G1, G2, hd.but hb (fun x hx => (a4 x (.inl hx)).2), h1.but hb (fun x hx => (a4 x (.inr (.inl hx))).2), h2.but hb (fun x hx => (a4 x (.inr (.inr hx))).2), a1, a2, a3, fun x hx => ⟨(a4 x hx).1, fun e => ?_⟩⟩, fun x hx => ?_, h.bel.trans (hb.below h.bel.size (fun x hx => (h.ho x hx).1)), h.lets, h.few, h.far1, h.far2, h.reg1, h.reg2, h.far⟩
  · rcases hO x e with k | k
    · exact (a4 x hx).2 k
    · rcases hx with e | e | e
      · have := hd.2.2 x e; omega
      · have := h1.2 x e; omega
      · have := h2.2 x e; omega
  · rcases hO x hx with k | k
    · exact ⟨(h.ho x k).1, Nat.lt_of_lt_of_le (h.ho x k).2 hb.size⟩
    · exact ⟨Nat.le_trans h.bel.size k.1, k.2⟩
theorem Two.below (h : Two v W O gd s1 f1 k1 l1 s2 f2 k2 l2 st) (hb : Below W.heap.size W W') : Two v W' O gd s1 f1 k1 l1 s2 f2 k2 l2 st := h.step (But.of_below hb) (fun _ hx => .inl hx)
theorem Two.fits1 (h : Two v W O gd s1 f1 k1 l1 s2 f2 k2 l2 st) : usedL l1 ≤ k1 := by obtain ⟨F, G1, G2, hd, h1, _⟩ := h.ex; exact h1.fits

theorem two_add {A : Option Addr} {n c : Nat} {b : List Nat} (h : Two v W O gd s1 f1 k1 l1 s2 f2 k2 l2 st) (hin : Came v A n c b) (h1 : n ≤ 256) (h2 : secs n ≤ k1 - usedL l1) :
    Calls Tryd.prog 11 #[.pointer (some ⟨s1, 0, none⟩), .slice A n c] W fun e w' => e = .returned (.int .i64 0) ∧ But (fun x => ¬ O x) W w' ∧ ∃ st', Two v w' O gd s1 f1 k1 (l1 ++ [b]) s2 f2 k2 l2 st' := by
  obtain ⟨F, G1, G2, hd, hs1, hs2, a1, a2, a3, a4⟩ := h.ex
  have hfit := h.fits1
  have hl := hin.in_.len
  have hr2 : k1 - usedL l1 - secs b.length = k1 - usedL (l1 ++ [b]) := by rw [usedL_snoc]; omega
  have hn := add_neat (m := ⟨st, l1, false⟩) (from_ := f1) (many := k1) (r := k1 - usedL l1) (xs := b) h.lets rfl (by omega) hin.lt (by show usedL l1 + _ = _; omega) (by rw [hl]; exact h2) h.reg1
  have e1 := add_free (m := ⟨st, l1, false⟩) (from_ := f1) (many := k1) (xs := b) h.lets rfl (by omega) hin.lt (by rw [hl]; exact h2)
  have hs := sadd_any (m := ⟨st, l1, false⟩) ⟨hd, hs1, a1, h.far1⟩ (hin.in_.below h.bel) hin.lt hin.nil hin.cap (fun ad e h0 hx => by
    obtain ⟨ad', x, e1, _, hc⟩ := hin.in_.at_ h0
    rw [e] at e1; cases e1
    have hlt := World.block_lt_of_cell? v _ hc
    rw [block_add] at hlt
    have := (a4 _ (hx.imp id .inl)).1
    omega) (Nat.le_trans h.few (by decide))
  have e2 : (Sm.add ⟨st, l1, false⟩ f1 k1 b).1 = 0 := by rw [e1]
  have e3 : (Sm.add ⟨st, l1, false⟩ f1 k1 b).2.l = l1 ++ [b] := by rw [e1]
  have e4 : (Sm.add ⟨st, l1, false⟩ f1 k1 b).2.down = false := by rw [e1]
  have e5 : (Sm.add ⟨st, l1, false⟩ f1 k1 b).2.st.lets = -1 := by rw [e1]
  have e6 : regionL (Sm.add ⟨st, l1, false⟩ f1 k1 b).2.st.read f2 k2 = regionL st.read f2 k2 := by
    rw [e1]
    have hp := secs_pos b.length
    have hlen : (fsecs (l1.length + 1) b).tail.length + 1 = secs b.length := by rw [List.length_tail, fsecs_length]; omega
    rw [hl] at hlen hp
    show regionL ((setAll st.read (f1 + usedL l1 + 1) (fsecs (l1.length + 1) b).tail).set (f1 + usedL l1) ((fsecs (l1.length + 1) b).headD [])) f2 k2 = _
    have hf := h.far
    rw [region_out (by omega), region_outs (by omega)]
  have e7 : f2 + k2 ≤ (Sm.add ⟨st, l1, false⟩ f1 k1 b).2.st.sure.length := by
    rw [e1]
    show _ ≤ (setAll st.read _ _).length
    rw [setAll_length, st.read_length]
    exact h.far2
  obtain ⟨r, hr⟩ : ∃ r, Sm.add ⟨st, l1, false⟩ f1 k1 b = r := ⟨_, rfl⟩
  rw [hr] at hs hn e2 e3 e4 e5 e6 e7
  rw [e2] at hs
  refine hs.mono ?_
  rintro e w' ⟨he, F', G', hh, hbt, hf, hg⟩
  have hd' := hh.d
  have hs' := hh.s
  rw [e3, e4] at hs'
  have hlt2 := hs2.2
  have hsz := fun x (hx : O x) => (h.ho x hx).2
  refine ⟨he, hbt.mono (fun x _ hx => (a4 x (hx.imp id .inl)).2), r.2.st, ⟨⟨F', G', G2, hd', hs', hs2.but hbt (fun x hx hk => hk.elim (fun k => a2 x k hx) (fun k => a3 x k hx)), hh.ap, fun x hx hk => (hf x hx).elim (fun k => a2 x k hk) (fun k => by have := hlt2 x hk; omega), fun x hx hk => (hg x hx).elim (fun k => a3 x k hk) (fun k => by have := hlt2 x hk; omega), fun x hx => ?_⟩, fun x hx => ⟨(h.ho x hx).1, Nat.lt_of_lt_of_le (hsz x hx) hbt.size⟩, h.bel.trans (hbt.below h.bel.size (fun x hx => (a4 x (hx.imp id .inl)).1)), e5, by rw [hn.2.2]; exact Nat.le_refl _, hh.fits, e7, ?_, by rw [e6]; exact h.reg2, h.far⟩⟩
  · have key : ∀ x, W.heap.size ≤ x → v.heap.size ≤ x ∧ ¬ O x := fun x hx => ⟨Nat.le_trans h.bel.size hx, fun e => by have := hsz x e; omega⟩
    rcases hx with k | k | k
    · exact (hf x k).elim (fun k => a4 x (.inl k)) (key x)
    · exact (hg x k).elim (fun k => a4 x (.inr (.inl k))) (key x)
    · exact a4 x (.inr (.inr k))
  · rw [← hr2]; exact hn.1

/-- One more store is opened where the first one stands. -/
theorem two_open (E : Errs) (hE : Laid v E) (h : Two v W O gd s1 f1 k1 l1 s2 f2 k2 l2 st) (hk : 1 ≤ k1) :
    Calls Tryd.prog 10 #[.pointer (some ⟨gd, 0, none⟩), .int .i64 (f1 : Int), .int .i64 (k1 : Int)] W fun e w' => ∃ s3 G3, e = .returned (.tuple #[.pointer (some ⟨s3, 0, none⟩), .int .i64 0]) ∧ Sto w' s3 gd f1 k1 G3 l1 false ∧ But (fun x => ¬ O x) W w' ∧ ∃ st', Two v w' (fun x => O x ∨ G3 x) gd s1 f1 k1 l1 s2 f2 k2 l2 st' := by
  obtain ⟨F, G1, G2, hd, hs1, hs2, a1, a2, a3, a4⟩ := h.ex
  have hfit := h.fits1
  refine (open_region (l := l1) (r := k1 - usedL l1) E (fun W' hb => hE.below (h.bel.trans (hb.below h.bel.size (fun x hx => (a4 x (.inl hx)).1)))) hd hk h.far1 (Nat.le_trans h.few (by decide)) h.lets (fun b hb => (hs1.ok b hb).1) (by omega) h.reg1).mono ?_
  rintro e w' ⟨s3, F', G3, he, hh, hbt, hf, hg⟩
  have hsz := fun x (hx : O x) => (h.ho x hx).2
  have hlt1 := hs1.2
  have hlt2 := hs2.2
  refine ⟨s3, G3, he, hh.s, hbt.mono (fun x _ hx => (a4 x (.inl hx)).2), _, ⟨⟨F', G1, G2, hh.d, hs1.but hbt (fun x hx hk => a1 x hk hx), hs2.but hbt (fun x hx hk => a2 x hk hx), fun x hx hk => (hf x hx).elim (fun k => a1 x k hk) (fun k => by have := hlt1 x hk; omega), fun x hx hk => (hf x hx).elim (fun k => a2 x k hk) (fun k => by have := hlt2 x hk; omega), a3, fun x hx => ?_⟩, fun x hx => ?_, h.bel.trans (hbt.below h.bel.size (fun x hx => (a4 x (.inl hx)).1)), rfl, Nat.zero_le _, hh.fits, ?_, h.reg1, h.reg2, h.far⟩⟩
  · rcases hx with k | k | k
    · refine (hf x k).elim (fun k' => ⟨(a4 x (.inl k')).1, fun e => e.elim (a4 x (.inl k')).2 (hh.ap x k)⟩) (fun k' => ⟨Nat.le_trans h.bel.size k', fun e => e.elim (fun e => by have := hsz x e; omega) (hh.ap x k)⟩)
    · exact ⟨(a4 x (.inr (.inl k))).1, fun e => e.elim (a4 x (.inr (.inl k))).2 (fun e => by have := hg x e; have := hlt1 x k; omega)⟩
    · exact ⟨(a4 x (.inr (.inr k))).1, fun e => e.elim (a4 x (.inr (.inr k))).2 (fun e => by have := hg x e; have := hlt2 x k; omega)⟩
  · rcases hx with k | k
    · exact ⟨(h.ho x k).1, Nat.lt_of_lt_of_le (hsz x k) hbt.size⟩
    · exact ⟨Nat.le_trans h.bel.size (hg x k), hh.s.2 x k⟩
  · show f2 + k2 ≤ st.read.length
    rw [st.read_length]; exact h.far2
end

/-- The second store of a new disk. -/
theorem two_second {v W : World} {gd s1 f1 k1 f2 k2 : Nat} {st : St} {F G : Nat → Prop} (E : Errs) (hE : Laid v E) (hb0 : Below v.heap.size v W) (hh : Held_ W gd s1 f1 k1 ⟨st, [], false⟩ F G) (hl : ∀ x, F x ∨ G x → v.heap.size ≤ x) (hlets : st.lets = -1) (hw : st.waits = []) (hk : 1 ≤ k2) (hf2 : f2 + k2 ≤ st.sure.length) (hfar : f1 + k1 ≤ f2 ∨ f2 + k2 ≤ f1)
    (r1 : regionL st.read f1 k1 = List.replicate k1 nought) (r2 : regionL st.read f2 k2 = List.replicate k2 nought) :
    Calls Tryd.prog 10 #[.pointer (some ⟨gd, 0, none⟩), .int .i64 (f2 : Int), .int .i64 (k2 : Int)] W fun e w' => ∃ s2 st', e = .returned (.tuple #[.pointer (some ⟨s2, 0, none⟩), .int .i64 0]) ∧ Two v w' (fun _ => False) gd s1 f1 k1 [] s2 f2 k2 [] st' := by
  refine (open_region (l := []) (r := k2) E (fun W' hb => hE.below (hb0.trans (hb.below hb0.size (fun x hx => hl x (.inl hx))))) hh.d hk hf2 (by rw [hw]; exact Nat.zero_le _) hlets (fun b hb => by cases hb) (by rw [usedL_nil]; omega) (by rw [r2]; rfl)).mono ?_
  rintro e w' ⟨s2, F', G', he, hh2, hbt, hf, hg⟩
  have hlt := hh.s.2
  refine ⟨s2, _, he, ⟨⟨F', G, G', hh2.d, hh.s.but hbt (fun x hx hk => hh.ap x hk hx), hh2.s, fun x hx hk => (hf x hx).elim (fun k => hh.ap x k hk) (fun k => by have := hlt x hk; omega), hh2.ap, fun x hx hk => by have := hlt x hx; have := hg x hk; omega, fun x hx => ⟨?_, fun e => e⟩⟩, fun x hx => hx.elim, hb0.trans (hbt.below hb0.size (fun x hx => hl x (.inl hx))), rfl, Nat.zero_le _, ?_, hh2.fits, ?_, ?_, hfar⟩⟩
  · rcases hx with k | k | k
    · exact (hf x k).elim (fun k => hl x (.inl k)) (fun k => Nat.le_trans hb0.size k)
    · exact hl x (.inr k)
    · exact Nat.le_trans hb0.size (hg x k)
  · show f1 + k1 ≤ st.read.length
    rw [st.read_length]; exact hh.fits
  · show regionL (settle st.read []) f1 k1 = _
    rw [settle_nil, r1, usedL_nil]; rfl
  · show regionL (settle st.read []) f2 k2 = _
    rw [settle_nil, r2, usedL_nil]; rfl

end Go.Proofs.YtjkohceigdfmjaaDoor

/-
  alive: some answers that the document fixes.
-/
namespace Go.Proofs.YtjkohceigdfmjaaDoor
open Go.RowKit

def ab2 : List Nat := [97, 98]
def ab_h : List Nat := (fsecs 1 ab2).headD []
def mA : Sm := ⟨⟨zeros 10, [], -1, false⟩, [], false⟩
def mB : Sm := ⟨⟨zeros 10, [(0, ab_h)], -1, false⟩, [ab2], false⟩
theorem ab_secs : secs ab2.length = 1 := by decide
theorem ab_tail : (fsecs 1 ab2).tail = [] := by
  have h := fsecs_length 1 ab2
  rw [ab_secs] at h
  cases h2 : fsecs 1 ab2 with
  | nil => rfl
  | cons x T => rw [h2] at h; simp at h; simp [h]
theorem add_ab : mA.add 0 10 ab2 = (0, mB) := by
  have h := add_free (m := mA) (from_ := 0) (many := 10) (xs := ab2) rfl rfl (by decide) (by decide) (by decide)
  rw [h]
  have e1 : mA.st.read = zeros 10 := rfl
  have e2 : usedL mA.l = 0 := rfl
  have e3 : mA.l.length + 1 = 1 := rfl
  rw [e1, e2, e3, ab_tail]
  rfl
theorem kept_none : kept mB.st.waits [] = [] := rfl
theorem kept_one : kept mB.st.waits [true] = [(0, ab_h)] := rfl
theorem reg_none : regionL (settle mB.st.sure (kept mB.st.waits [])) 0 10 = lsecs 0 [] ++ List.replicate 10 nought := by
  rw [kept_none, settle_nil]
  show regionL (zeros 10) 0 10 = _
  rw [zeros_region (by decide)]; rfl
theorem reg_one : regionL (settle mB.st.sure (kept mB.st.waits [true])) 0 10 = lsecs 0 [ab2] ++ List.replicate 9 nought := by
  rw [kept_one]
  show regionL ((zeros 10).set (0 + 0) ab_h) 0 10 = _
  rw [region_set, zeros_region (by decide)]
  have h := (add_region (l := []) (r := 10) (xs := ab2) (by decide)).1
  have e3 : ([] : List (List Nat)).length + 1 = 1 := rfl
  rw [e3, ab_tail, ab_secs] at h
  exact h
def mC : Sm := mB.sync.2
theorem sync_mB : mB.sync = (0, mC) ∧ mC.l = [ab2] ∧ mC.down = false ∧ mC.st.waits.length ≤ 800000 ∧ mC.st.sure.length = 10 := by
  have e : mB.sync = (0, ⟨mB.st.sn, [ab2], false⟩) := by
    unfold Sm.sync
    rw [if_neg (by decide), sc_free rfl]
    rfl
  have e2 : mC = ⟨mB.st.sn, [ab2], false⟩ := by unfold mC; rw [e]
  refine ⟨by rw [e2]; exact e, by rw [e2], by rw [e2], by rw [e2, sn_free rfl]; exact Nat.zero_le _, ?_⟩
  rw [e2, sn_free rfl]
  show mB.st.read.length = 10
  have : mB.st.read = (zeros 10).set 0 ab_h := rfl
  rw [this, List.length_set, zeros_length]
theorem add_great {m : Sm} {f k : Nat} {xs : List Nat} (h : 256 < xs.length) : m.add f k xs = (3, m) := by unfold Sm.add; rw [if_pos h]

theorem In.butS {S : Nat → Prop} {w w' : World} {A : Option Addr} {n : Nat} {xs : List Nat} (h : In w A n xs) (hb : But S w w') (hA : ∀ ad, A = some ad → ¬ S ad.block) : In w' A n xs :=
  ⟨h.len, fun j x hx => by
    obtain ⟨ad, e, hc⟩ := h.rd j x hx
    have hlt := World.block_lt_of_cell? w _ hc
    refine ⟨ad, e, ?_⟩
    rw [← hc]
    exact World.cell?_of_block (w := w) (hb.block _ hlt (by rw [block_add]; exact hA ad e))⟩

theorem below_thenS {n : Nat} {w w1 w2 : World} (h : Below n w w1) (hn : n ≤ w.heap.size) (k : Below w1.heap.size w1 w2) : Below n w w2 := h.trans (k.mono (Nat.le_trans hn h.size))
section
variable {w W w' : World} {gd sb : Nat}
theorem al_add (h : Live w W (fun _ => False) gd sb 0 10 mA) (W3 : World) (hb : Below W.heap.size W W3) :
    Calls Tryd.prog 11 #[.pointer (some ⟨sb, 0, none⟩), .slice (some ⟨W3.heap.size, 0, none⟩) 2 2] (W3.alloc (.cells #[.int .u8 97, .int .u8 98] 5 (2, 3))) fun e w' => e = .returned (.int .i64 0) ∧ Live w w' (fun _ => False) gd sb 0 10 mB := by
  have h1 := live_add (xs := ab2) (h.below hb) (below_alloc W3 (.cells #[.int .u8 97, .int .u8 98] 5 (2, 3))) (In.lit_ W3 ab2 (2, 3)) (by decide) (fun e => by cases e) (Nat.le_refl 2) (fun ad e _ => by cases e; exact .inr (Nat.le_refl _)) (Nat.zero_le _)
  rw [add_ab] at h1
  exact h1.mono fun e w' ⟨he, hl, _⟩ => ⟨he, hl⟩
theorem al_get (h : Live w W (fun _ => False) gd sb 0 10 mB) :
    Calls Tryd.prog 22 #[.pointer (some ⟨sb, 0, none⟩), .int .i64 0] W fun e w' => ∃ g c, e = .returned (.tuple #[.slice (some ⟨g, 0, none⟩) 2 c, .int .i64 0]) ∧ In w' (some ⟨g, 0, none⟩) 2 ab2 ∧ W.heap.size ≤ g ∧ g < w'.heap.size ∧ Below W.heap.size W w' := by
  obtain ⟨G, ⟨v, vals, hs⟩, _⟩ := h.sto
  refine (get_sto (k := 0) (b := ab2) hs rfl).mono fun e w' ⟨u, he, ho, hb⟩ => ?_
  obtain ⟨g, c, rfl⟩ := Joins.ownsRow_form ho (show 0 < ab2.length by decide)
  refine ⟨g, c, he, In.of_own ho, ?_, ?_, hb⟩
  · rcases ho.2 with ⟨e1, h0⟩ | ⟨g', cap, cur, e1, r⟩
    · cases e1
    · cases e1; exact r.1
  · have hi := In.of_own ho
    obtain ⟨ad, x, e1, _, hc⟩ := hi.at_ (k := 0) (by decide)
    cases e1
    have := World.block_lt_of_cell? w' _ hc
    rw [block_add] at this; exact this
theorem al_bad (h : Live w W (fun _ => False) gd sb 0 10 mB) (hb : Below W.heap.size W w') :
    Calls Tryd.prog 22 #[.pointer (some ⟨sb, 0, none⟩), .int .i64 1] w' fun e w2 => e = .returned (.tuple #[.slice none 0 0, .int .i64 1]) ∧ w' = w2 := by
  obtain ⟨G, ⟨v, vals, hs⟩, _⟩ := (h.below hb).sto
  exact get_bad hs (by have : mB.l.length = 1 := rfl; omega)
def mN (st : List (List Nat)) (l : List (List Nat)) : Sm := ⟨⟨st, [], -1, false⟩, l, false⟩
theorem al_none (E : Errs) (hE : Laid w E) (h : Live w W (fun _ => False) gd sb 0 10 mB) (hb : Below W.heap.size W w') :
    Calls Tryd.prog 17 #[.pointer (some ⟨gd, 0, none⟩), .int .i64 10, .slice none 0 0] w' fun e w2 => ∃ g2 sb2 st, e = .returned (.pointer (some ⟨sb2, 0, none⟩)) ∧ Live w' w2 (fun _ => False) g2 sb2 0 10 (mN st []) ∧ Below w'.heap.size w' w2 := by
  have h1 := h.below hb
  obtain ⟨F, hd⟩ := h1.disk
  refine (opened_any (l := []) (r := 10) (ks := []) E hE h1.bel hd (InB.none_ _ _) (by decide) (show 10 ≤ (zeros 10).length by rw [zeros_length]; exact Nat.le_refl _) (fun b hb => by cases hb) rfl reg_none).mono fun e w2 ⟨g2, sb2, he, hl⟩ => ⟨g2, sb2, _, he, hl, hl.bel⟩
theorem inb_true (W : World) : InB (W.alloc (.cells #[.bool true] 4)) (some ⟨W.heap.size, 0, none⟩) 1 [true] := ⟨rfl, fun j x hx => ⟨_, rfl, by
    have hj : j < 1 := (List.getElem?_eq_some_iff.1 hx).1
    obtain rfl : j = 0 := by omega
    cases hx
    show (W.alloc (.cells #[.bool true] 4)).cell? ⟨W.heap.size, 0, none⟩ = _
    rw [cell_of_row _ _ 0 _ _ (0, 0) (World.alloc_heap_new W (Obj.cells #[Value.bool true] 4))]
    rfl⟩⟩
theorem ab_all : ∀ b ∈ [ab2], b.length ≤ 256 := by
  intro b hb
  have : b = ab2 := by simpa using hb
  rw [this]
  decide
theorem al_one (E : Errs) (hE : Laid w E) (h : Live w W (fun _ => False) gd sb 0 10 mB) (hb : Below W.heap.size W w') :
    Calls Tryd.prog 17 #[.pointer (some ⟨gd, 0, none⟩), .int .i64 10, .slice (some ⟨w'.heap.size, 0, none⟩) 1 1] (w'.alloc (.cells #[.bool true] 4)) fun e w2 => ∃ g2 sb2 st, e = .returned (.pointer (some ⟨sb2, 0, none⟩)) ∧ Live (w'.alloc (.cells #[.bool true] 4)) w2 (fun _ => False) g2 sb2 0 10 (mN st [ab2]) ∧ Below w'.heap.size w' w2 := by
  have hb2 := below_alloc w' (.cells #[.bool true] 4)
  have h1 := (h.below hb).below hb2
  obtain ⟨F, hd⟩ := h1.disk
  refine (opened_any (l := [ab2]) (r := 9) (ks := [true]) E hE h1.bel hd (inb_true w') (by decide) (show 10 ≤ (zeros 10).length by rw [zeros_length]; exact Nat.le_refl _) ab_all (by decide) reg_one).mono fun e w2 ⟨g2, sb2, he, hl⟩ => ⟨g2, sb2, _, he, hl, below_thenS hb2 (Nat.le_refl _) hl.bel⟩
theorem make_inS (k : Nat) (hk : k ≤ 1000) : ∃ M : Array Value, (∀ W : World, (Instr.makeSlice 35 (.int .i64 (k : Int)) (.int .i64 (k : Int))).run Tryd.prog W = .ok (.slice (some ⟨W.heap.size, 0, none⟩) k k) (W.alloc (.cells M 5))) ∧
    ∀ W : World, In (W.alloc (.cells M 5)) (some ⟨W.heap.size, 0, none⟩) k (List.replicate k 0) := by
  refine ⟨(bvs (List.replicate k 0)).toArray, fun W => ?_, fun W => ?_⟩
  · have := make_bytes k k (Nat.le_refl _) (by omega) W
    rw [made_noughts] at this
    exact this
  · have := In.lit_ W (List.replicate k 0) (0, 0)
    rw [List.length_replicate] at this
    exact this
theorem al_great {O : Nat → Prop} {M : Array Value} (hM : ∀ W : World, In (W.alloc (.cells M 5)) (some ⟨W.heap.size, 0, none⟩) 257 (List.replicate 257 0)) (h : Live w W O gd sb 0 10 mC) :
    Calls Tryd.prog 11 #[.pointer (some ⟨sb, 0, none⟩), .slice (some ⟨W.heap.size, 0, none⟩) 257 257] (W.alloc (.cells M 5)) fun e w' => e = .returned (.int .i64 3) ∧ Live w w' O gd sb 0 10 mC ∧ But (fun x => ¬ O x) W w' := by
  have hba := below_alloc W (.cells M 5)
  have h1 := live_add h hba (hM W) (fun x hx => by rw [List.eq_of_mem_replicate hx]; decide) (fun e => by cases e) (Nat.le_refl 257) (fun ad e _ => by cases e; exact .inr (Nat.le_refl _)) sync_mB.2.2.2.1
  rw [add_great (by rw [List.length_replicate]; decide)] at h1
  exact h1.mono fun e w' ⟨he, hl, hb⟩ => ⟨he, hl, (But.of_below hba).trans (hb.mono (fun _ _ k => k))⟩
theorem al_arg {O : Nat → Prop} (h : Live w W O gd sb 0 10 mC) :
    Calls Tryd.prog 10 #[.pointer (some ⟨gd, 0, none⟩), .int .i64 5, .int .i64 6] W fun e w' => e = .returned (.tuple #[.pointer none, .int .i64 1]) ∧ Below W.heap.size W w' := by
  obtain ⟨F, hd⟩ := h.disk
  exact open_arg hd (by decide) (by decide) (by rw [sync_mB.2.2.2.2]; decide) (by decide)
theorem al_len {O : Nat → Prop} (h : Live w W O gd sb 0 10 mC) :
    Calls Tryd.prog 15 #[.pointer (some ⟨sb, 0, none⟩)] W fun e w' => e = .returned (.int .i64 1) ∧ W = w' := by
  have := live_len h
  rw [sync_mB.2.1] at this
  exact this
theorem al_left {O : Nat → Prop} (h : Live w W O gd sb 0 10 mC) :
    Calls Tryd.prog 19 #[.pointer (some ⟨sb, 0, none⟩)] W fun e w' => e = .returned (.int .i64 9) ∧ Below W.heap.size W w' := by
  have := live_left h
  rw [sync_mB.2.1] at this
  exact this
/-- A store that is kept off what is written. -/
theorem live_kept {a : World} {S : Nat → Prop} {f k : Nat} {m : Sm} (h : Live a W (fun _ => False) gd sb f k m) (hb : But S W w') (hS : ∀ x, a.heap.size ≤ x → x < W.heap.size → ¬ S x) : ∃ v vals G, StoAt w' sb gd f k v vals G m.l m.down := by
  obtain ⟨F, G, hh, hl, _, _⟩ := h
  have := hh.s.but hb (fun x hx => hS x (hl x (.inr hx)).1 (hh.s.2 x hx))
  obtain ⟨⟨v, vals, hs⟩, _⟩ := this
  exact ⟨v, vals, G, hs⟩
end

set_option maxRecDepth 100000 in
set_option maxHeartbeats 4000000 in
theorem alive_any {w : World} (E : Errs) (hE : Laid w E) :
    Calls Tryd.prog 7 #[] w fun e w' => e = .returned (.bool true) ∧ Below w.heap.size w w' := by
  have CN := new_yes w 10 (by decide) (by decide)
  have HE := Lib.hid hE
  obtain ⟨M257, m257, i257⟩ := make_inS 257 (by omega)
  have n257 : ∀ W : World, (Instr.makeSlice 35 (.int .i64 257) (.int .i64 257)).run Tryd.prog W = .ok (.slice (some ⟨W.heap.size, 0, none⟩) 257 257) (W.alloc (.cells M257 5)) := m257
  have HM := Lib.hid i257
  clear m257 i257
  have kc := fun (W : World) (C : Array Value) (n c g : Nat) (hg : g = W.heap.size) => Joins.run_convert_bytes_const_at (P := Tryd.prog) W 35 5 C n c g hg Tryd.underlying35 Tryd.underlying5
  clear hE
  go_enter Tryd.func7, Tryd.ntmps7
  go_wp2_with fail
  refine CN.mono ?_
  rintro e w1 ⟨gd, rfl, hM⟩
  have CO := Lib.hid (live_open (from_ := 0) (many := 10) (n := 10) E HE.out hM.2 hM.1 (fun x hx => hx.1) (by decide) (by decide) (zeros_length 10) (zeros_region (by decide)) rfl (by show ([] : List (Nat × List Nat)).length ≤ _; simp))
  clear CN hM
  go_wp2_with fail
  refine CO.out.mono ?_
  rintro e w2 ⟨sb, rfl, hl2⟩
  have hl2 : Live w w2 (fun _ => False) gd sb 0 10 mA := hl2
  have CL := Lib.hid (live_len hl2)
  have CF := Lib.hid (live_left hl2)
  have HL2 := Lib.hid hl2
  clear hl2 CO
  go_wp2_with fail
  refine CL.out.mono ?_
  rintro e w3 ⟨rfl, rfl⟩
  clear CL
  go_wp2_with fail
  refine CF.out.mono ?_
  rintro e w3 ⟨rfl, hb3⟩
  have HB3 := Lib.hid hb3
  clear CF hb3
  have C4 := Lib.hid (al_add HL2.out w3 HB3.out)
  clear HB3 HL2
  go_wp2_with fail
  refine C4.out.mono ?_
  rintro e w4 ⟨rfl, hl4⟩
  clear C4
  have C5 := Lib.hid (al_get hl4)
  have HL4 := Lib.hid hl4
  clear hl4
  go_wp2_with fail
  refine C5.out.mono ?_
  rintro e w5 ⟨gx, cx, rfl, hx5, hgx, hgx2, hb5⟩
  clear C5
  have C6 := Lib.hid (al_bad HL4.out hb5)
  have HX := Lib.hid (And.intro hx5 (And.intro hgx (And.intro hgx2 hb5)))
  clear hx5 hgx hgx2 hb5
  go_wp2_with fail
  refine C6.out.mono ?_
  rintro e w6 ⟨rfl, rfl⟩
  clear C6
  have C7 := Lib.hid (al_none E HE.out HL4.out HX.out.2.2.2)
  go_wp2_with fail
  refine C7.out.mono ?_
  rintro e w7 ⟨g2, s2, t2, rfl, hl7, hb7⟩
  clear C7
  have HB7 := Lib.hid (below_thenS HX.out.2.2.2 (Nat.le_refl _) hb7)
  have HL7 := Lib.hid (And.intro hl7 hb7)
  have C8 := Lib.hid (al_one E HE.out HL4.out HB7.out)
  clear hl7 hb7
  go_wp2_with fail
  refine C8.out.mono ?_
  rintro e w8 ⟨g3, s3, t3, rfl, hl8, hb8⟩
  clear C8
  have HB8 := Lib.hid (And.intro (below_thenS HB7.out (Nat.le_refl _) hb8) hb8)
  have HL8 := Lib.hid hl8
  have HO8 := Lib.hid (HL4.out.off (O' := fun x => w4.heap.size ≤ x ∧ x < w8.heap.size) HB8.out.1 (fun x hx => .inr hx))
  have C9 := live_sync HO8.out
  rw [sync_mB.1] at C9
  have C9 := Lib.hid C9
  clear hl8 hb8 HL4 HO8
  go_wp2_with fail
  refine C9.out.mono ?_
  rintro e w9 ⟨rfl, hl9, hb9⟩
  clear C9
  have C10 := Lib.hid (al_great HM.out hl9)
  have HB9 := Lib.hid hb9
  have HL9 := Lib.hid hl9
  clear hl9 hb9
  go_wp2_with fail
  refine C10.out.mono ?_
  rintro e w10 ⟨rfl, hl10, hb10⟩
  clear C10 n257 HM
  have C11 := Lib.hid (al_arg hl10)
  have HB10 := Lib.hid (HB9.out.trans hb10)
  have HL10 := Lib.hid hl10
  clear hl10 hb10 HB9 HL9
  go_wp2_with fail
  refine C11.out.mono ?_
  rintro e w11 ⟨rfl, hb11⟩
  clear C11
  have C12 := Lib.hid (al_len (HL10.out.below hb11))
  have C13 := Lib.hid (al_left (HL10.out.below hb11))
  have HB11 := Lib.hid (HB10.out.trans (But.of_below hb11))
  have HW11 := Lib.hid (HL10.out.below hb11).bel
  clear hb11 HB10 HL10
  go_wp2_with fail
  refine C12.out.mono ?_
  rintro e w12 ⟨rfl, rfl⟩
  clear C12
  go_wp2_with fail
  refine C13.out.mono ?_
  rintro e w12 ⟨rfl, hb12⟩
  clear C13
  have HB12 := Lib.hid (HB11.out.trans (But.of_below hb12))
  have HW12 := Lib.hid (below_thenS HW11.out (Nat.le_refl _) hb12)
  have s2 : (convert 35 9 (.slice (some ⟨gx, 0, none⟩) 2 cx)).run Tryd.prog w12 = .ok (.string { data := #[97, 98] }) w12 := by
    obtain ⟨k1, k2, k3, k4⟩ := HX.out
    refine conv_str (((k1.below (HL7.out.2.trans (HB8.out.2.mono HL7.out.2.size)))).butS HB12.out (fun ad e => ?_)) (by decide) cx
    cases e
    exact fun h => h ⟨k2, Nat.lt_of_lt_of_le k3 (Nat.le_trans HL7.out.2.size HB8.out.2.size)⟩
  obtain ⟨v2, vals2, G2, q2⟩ := live_kept (HL7.out.1.below HB8.out.2) HB12.out (fun x h1 h2 h3 => h3 ⟨Nat.le_trans HX.out.2.2.2.size h1, h2⟩)
  obtain ⟨v3, vals3, G3, q3⟩ := live_kept HL8.out HB12.out (fun x h1 h2 h3 => h3 ⟨Nat.le_trans (Nat.le_trans HB7.out.size (below_alloc w7 (.cells #[.bool true] 4)).size) h1, h2⟩)
  have C14 := Lib.hid (slen_sto q2)
  have C15 := Lib.hid (slen_sto q3)
  clear hb12 HB11 HB12 HW11 q2 q3
  go_wp2_with fail
  refine C14.out.mono ?_
  rintro e w13 ⟨rfl, rfl⟩
  clear C14
  go_wp2_with fail
  refine C15.out.mono ?_
  rintro e w13 ⟨rfl, rfl⟩
  clear C15
  go_wp2_with fail
  go_ret
  exact ⟨rfl, HW12.out⟩

end Go.Proofs.YtjkohceigdfmjaaDoor

/-
  small, whatever came in; how many sectors the first records take.
-/
namespace Go.Proofs.YtjkohceigdfmjaaDoor
open Go.RowKit

theorem used_take {R : List (List Nat)} (h : ∀ b ∈ R, b.length ≤ 256) (j : Nat) : usedL (R.take j) ≤ 5 * j := by
  induction j generalizing R with
  | zero => simp [usedL]
  | succ j ih =>
    cases R with
    | nil => simp [usedL]
    | cons b R =>
      rw [List.take_succ_cons, usedL_cons]
      have h1 := ih (R := R) (fun b hb => h b (List.mem_cons_of_mem _ hb))
      have h2 := secs_le b.length (h b (by simp))
      omega

set_option maxRecDepth 100000 in
theorem small_no {w : World} {A : Option Addr} {n c : Nat} (h30 : 30 < n) :
    Calls Tryd.prog 8 #[.slice A n c] w fun e w' => e = .returned (.bool false) ∧ w = w' := by
  have hi : (30 : Int) < (n : Int) := by omega
  go_enter Tryd.func8, Tryd.ntmps8
  go_wp2
  go_ret
  exact ⟨rfl, rfl⟩
theorem small_all {w : World} {R : List (List Nat)} {A : Option Addr} {n c : Nat} (hr : CameRows w A n R) :
    Calls Tryd.prog 8 #[.slice A n c] w fun e w' => ∃ z, e = .returned (.bool z) ∧ w = w' ∧ (z = true ↔ Small R) := by
  by_cases h : 30 < n
  · refine (small_no h).mono ?_
    rintro e w' ⟨he, hw⟩
    refine ⟨false, he, hw, ?_⟩
    have hl := hr.len
    unfold Small
    constructor
    · intro h; cases h
    · intro h; omega
  · exact small_any hr (by omega)


end Go.Proofs.YtjkohceigdfmjaaDoor

/-
  append to a row of slices of the call's own; such a row read as rows of bytes.
-/
namespace Go.Proofs.YtjkohceigdfmjaaDoor
open Go.ChangeShapes Go.WideShapes Go.ChangeAt Go.RowKit Go.Deep

theorem infoSlc : (Tryd.prog.info? 35).map (fun i => (i.zero, i.size, i.bytes)) = some (some (.slice none 0 0), 1, 24) := by kernel_rfl

/-- Y: slices, one for each list of R. -/
structure RowsIs (w : World) (Y : List Value) (R : List (List Nat)) : Prop where
  len : Y.length = R.length
  row : ∀ (j : Nat) (b : List Nat), R[j]? = some b → ∃ (A : Option Addr) (n c : Nat), Y[j]? = some (Value.slice A n c) ∧ Came w A n c b ∧ n ≤ 140737488355328
theorem RowsIs.one {w : World} {Y : List Value} {R : List (List Nat)} (h : RowsIs w Y R) : ∀ v ∈ Y, v.oneCell' = true := fun v hv => by
  obtain ⟨j, hj⟩ := List.mem_iff_getElem?.1 hv
  have hlt : j < R.length := by rw [← h.len]; exact (List.getElem?_eq_some_iff.1 hj).1
  obtain ⟨A, n, c, e, _⟩ := h.row j R[j] (List.getElem?_eq_getElem hlt)
  rw [hj] at e
  cases e
  rfl
theorem RowsIs.append {w : World} {Y Z : List Value} {R S : List (List Nat)} (h : RowsIs w Y R) (h2 : RowsIs w Z S) : RowsIs w (Y ++ Z) (R ++ S) :=
  ⟨by rw [List.length_append, List.length_append, h.len, h2.len], fun j b hb => by
    by_cases hj : j < R.length
    · rw [List.getElem?_append_left hj] at hb
      rw [List.getElem?_append_left (by rw [h.len]; exact hj)]
      exact h.row j b hb
    · rw [List.getElem?_append_right (by omega)] at hb
      rw [List.getElem?_append_right (by rw [h.len]; omega), h.len]
      exact h2.row _ b hb⟩
theorem RowsIs.take {w : World} {Y : List Value} {R : List (List Nat)} (h : RowsIs w Y R) (k : Nat) : RowsIs w (Y.take k) (R.take k) :=
  ⟨by rw [List.length_take, List.length_take, h.len], fun j b hb => by
    rw [List.getElem?_take] at hb ⊢
    split at hb
    · rename_i hj; rw [if_pos hj]; exact h.row j b hb
    · cases hb⟩
theorem rowsIs_nil (w : World) : RowsIs w [] [] := ⟨rfl, fun j b hb => by simp at hb⟩
theorem rowsIs_one {w : World} {A : Option Addr} {n c : Nat} {b : List Nat} (h : Came w A n c b) (hn : n ≤ 140737488355328) : RowsIs w [.slice A n c] [b] := ⟨rfl, fun j x hx => by
  cases j with
  | zero => cases hx; exact ⟨A, n, c, rfl, h, hn⟩
  | succ j => simp at hx⟩
theorem rows_out {w : World} {A : Option Addr} {n : Nat} {R : List (List Nat)} (h : CameRows w A n R) : ∃ Y, RowsIs w Y R ∧ ∀ (j : Nat) (v : Value), Y[j]? = some v → ∃ ad, A = some ad ∧ w.cell? (ad.add j) = some v := by
  have key : ∀ j, j < R.length → ∃ v : Value, (∃ B m c, v = .slice B m c ∧ Came w B m c (R.getD j []) ∧ m ≤ 140737488355328) ∧ ∃ ad, A = some ad ∧ w.cell? (ad.add j) = some v := fun j hj => by
    obtain ⟨ad, B, m, c, e, hc, hcame, hm⟩ := h.row j R[j] (List.getElem?_eq_getElem hj)
    refine ⟨_, ⟨B, m, c, rfl, ?_, hm⟩, ad, e, hc⟩
    rw [List.getD_eq_getElem?_getD, List.getElem?_eq_getElem hj]
    exact hcame
  obtain ⟨f, hf⟩ := choose_lt key
  refine ⟨(List.range R.length).map f, ⟨by simp, fun j b hb => ?_⟩, fun j v hv => ?_⟩
  · have hlt := (List.getElem?_eq_some_iff.1 hb).1
    obtain ⟨⟨B, m, c, e, hcame, hm⟩, _⟩ := hf j hlt
    refine ⟨B, m, c, ?_, ?_, hm⟩
    · rw [List.getElem?_map, List.getElem?_range hlt]; simp [e]
    · rw [List.getD_eq_getElem?_getD, hb] at hcame; exact hcame
  · rw [List.getElem?_map] at hv
    obtain ⟨i, hi, rfl⟩ := Option.map_eq_some_iff.1 hv
    have hlt : j < R.length := by have := (List.getElem?_eq_some_iff.1 hi).1; simpa using this
    rw [List.getElem?_range hlt] at hi
    cases hi
    exact (hf j hlt).2

theorem rows_nil {H : Type} {enc : TypeId × Value → H} {w : World} {base : Nat} {held : Bool} {fuel n c : Nat} {A : Option Addr} {x : DataW H × List MemPlace} (h : DataW.trod enc Tryd.prog w base (fun _ => true) held fuel 22 [.slice A n c] = some x) : A = none → c = 0 := by
  intro e
  subst e
  rcases open_int_rows Tryd.underlying22 Tryd.underlying35 Tryd.underlying5 (by kernel_rfl) (by kernel_rfl) h with ⟨e, _⟩ | ⟨a, len, cap, B, L, C, Z, e, _⟩
  · simp at e; exact e.2
  · simp at e

theorem run_rapp (w : World) (ty : TypeId) (base : Nat) (A : Option Addr) (n c : Nat) (X : List Value) (hown : w.ownsRow base 35 1 (.slice A n c) n X)
    (A2 : Option Addr) (m c2 : Nat) (Y : List Value) (hl : Y.length = m) (hin : ∀ (j : Nat) (v : Value), Y[j]? = some v → ∃ ad, A2 = some ad ∧ w.cell? (ad.add j) = some v) (h1 : ∀ v ∈ Y, v.oneCell' = true) (hnil : A2 = none → c2 = 0) (hle : n + m ≤ 1000000) (hbase : base ≤ w.heap.size) :
    ∃ A' c' w', (Builtin.append_ #[22, 22] ty #[.slice A n c, .slice A2 m c2]).run Tryd.prog w = .ok (.slice A' (n + m) c') w' ∧
      w'.ownsRow base 35 1 (.slice A' (n + m) c') (n + m) (X ++ Y) ∧ Below base w w' := by
  obtain ⟨i0, hi, hz0, hz1, hz2⟩ := info_parts infoSlc
  cases A2 with
  | none =>
    obtain rfl := hnil rfl
    have hy : Y = [] := by
      cases Y with
      | nil => rfl
      | cons y ys =>
        obtain ⟨ad, e, _⟩ := hin 0 y rfl
        cases e
    subst hy
    obtain rfl : m = 0 := hl.symm
    exact ⟨A, c, w, run_append_owned_none (P := Tryd.prog) (w := w) base 22 ty 35 i0 1 Tryd.underlying22 hi _ n X hown, by simpa using hown, Below.refl _ _⟩
  | some ad =>
    obtain ⟨v', w', hr, h2, h3, _⟩ := run_append_own (P := Tryd.prog) w base 22 ty 35 i0 _ 1 24 Tryd.underlying22 hi hz0 hz1 hz2 rfl (by decide) _ n X hown ad m c2 Y (by rw [hl]; simp)
      (fun j u hu => by
        obtain ⟨ad', e, hc⟩ := hin j u hu
        cases e
        exact hc) h1 (by unfold maxLen; omega) (by omega) hbase
    have hf : ∃ A c, v' = .slice A (n + m) c := by
      rcases h2.2 with ⟨rfl, e⟩ | ⟨g, cap, cur, rfl, _⟩
      · rw [e]; exact ⟨_, _, rfl⟩
      · exact ⟨_, _, rfl⟩
    obtain ⟨A', c', rfl⟩ := hf
    exact ⟨A', c', w', hr, h2, (Below.refl _ _).grown h3 hbase fun k hk => (hown.lt k hk).1⟩

theorem step_rapp {ops : Array Oper} {o : Oper} {a : Act} {w : World} {K : Act → World → Prop} {Q : Exit → Act → World → Prop} {E : Prop} (hgd : o.guard = none) (s x : Operand)
    (ho : o.op = .call { callee := .builtin .append, args := #[s, x], argTypes := #[22, 22] })
    (base : Nat) (A : Option Addr) (n c : Nat) (X : List Value) (hs : a.eval s = .slice A n c) (hown : w.ownsRow base 35 1 (.slice A n c) n X)
    (A2 : Option Addr) (m c2 : Nat) (Y : List Value) (hx : a.eval x = .slice A2 m c2) (hl : Y.length = m) (hin : ∀ (j : Nat) (v : Value), Y[j]? = some v → ∃ ad, A2 = some ad ∧ w.cell? (ad.add j) = some v) (h1 : ∀ v ∈ Y, v.oneCell' = true) (hnil : A2 = none → c2 = 0) (N : Nat) (hN : n + m = N) (hle : N ≤ 1000000) (hbase : base ≤ w.heap.size)
    (h : ∀ A' c' w', w'.ownsRow base 35 1 (.slice A' N c') N (X ++ Y) → Below base w w' → K (a.put o.dst (.slice A' N c')) w') :
    if Region.wanted o (yielded ops a.tmps) = true then Oper.wp Tryd.prog o a w K Q else E := by
  subst hN
  have hw : Region.wanted o (yielded ops a.tmps) = true := by simp [Region.wanted, hgd]
  rw [if_pos hw]
  obtain ⟨A', c', w', hr, h2, h3⟩ := run_rapp w o.type base A n c X hown A2 m c2 Y hl hin h1 hnil hle hbase
  unfold Oper.wp execOp
  simp only [ho, resolve, invoke, builtin, Sem.run_bind, Sem.run_pure, Result.andThen_ok, List.map_toArray, List.map_cons, List.map_nil, hs, hx, hr]
  exact h A' c' w' h2 h3

/-- A row of slices in blocks of O; what they read was there at v. -/
structure RowIn (v W : World) (O : Nat → Prop) (A : Option Addr) (n : Nat) (R : List (List Nat)) : Prop where
  len : R.length = n
  row : ∀ (r : Nat) (b : List Nat), R[r]? = some b → ∃ (ad : Addr) (B : Option Addr) (m c : Nat), A = some ad ∧ O ad.block ∧ W.cell? (ad.add r) = some (Value.slice B m c) ∧ Came v B m c b ∧ m ≤ 140737488355328
section
variable {v W W' : World} {O S : Nat → Prop} {A : Option Addr} {n c : Nat} {R : List (List Nat)}
theorem RowIn.came (h : RowIn v W O A n R) (hb : Below v.heap.size v W) : CameRows W A n R := ⟨h.len, fun r b hr => by
  obtain ⟨ad, B, m, c, e, _, hc, hcame, hm⟩ := h.row r b hr
  exact ⟨ad, B, m, c, e, hc, hcame.below hb, hm⟩⟩
theorem RowIn.but (h : RowIn v W O A n R) (hb : But S W W') (hO : ∀ x, O x → ¬ S x) : RowIn v W' O A n R := ⟨h.len, fun r b hr => by
  obtain ⟨ad, B, m, c, e, ho, hc, hcame, hm⟩ := h.row r b hr
  have hlt := World.block_lt_of_cell? W _ hc
  have hbl : (ad.add r).block = ad.block := block_add _ _
  refine ⟨ad, B, m, c, e, ho, ?_, hcame, hm⟩
  exact (World.cell?_of_block (w := W) (hb.block _ hlt (by rw [hbl]; exact hO _ ho))).trans hc⟩
theorem RowIn.below (h : RowIn v W O A n R) (hb : Below W.heap.size W W') : RowIn v W' O A n R := h.but (S := fun _ => False) (But.of_below hb) (fun _ _ hf => hf)
theorem rowIn_of_own {base : Nat} {e : TypeId} {Y : List Value} (h : W.ownsRow base e 1 (.slice A n c) n Y) (hY : RowsIs v Y R) : RowIn v W (fun x => base ≤ x ∧ x < W.heap.size) A n R := by
  have hlen : R.length = n := by rw [← hY.len, h.1]; omega
  refine ⟨hlen, fun r b hr => ?_⟩
  obtain ⟨B, m, k, hy, hcame, hm⟩ := hY.row r b hr
  rcases h.2 with ⟨e1, h0⟩ | ⟨g, cap, cur, e1, hg, _⟩
  · have := (List.getElem?_eq_some_iff.1 hr).1
    omega
  · cases e1
    have hc := h.cells rfl r _ hy
    refine ⟨_, B, m, k, rfl, ⟨hg, ?_⟩, hc, hcame, hm⟩
    have := World.block_lt_of_cell? W _ hc
    rwa [block_add] at this
end

end Go.Proofs.YtjkohceigdfmjaaDoor

/-
  append to one of several rows of the call's own: the others stay as they are.
-/
namespace Go.Proofs.YtjkohceigdfmjaaDoor
open Go.RowKit

theorem own_on {w w' : World} {base : Nat} {e : TypeId} {size : Nat} {v : Value} {n : Nat} {xs : List Value} (h : w.ownsRow base e size v n xs) (hb : Below w.heap.size w w') : w'.ownsRow base e size v n xs := by
  refine ⟨h.1, ?_⟩
  rcases h.2 with ⟨e1, h0⟩ | ⟨g, cap, cur, e1, h1, hg, h2⟩
  · exact .inl ⟨e1, h0⟩
  · exact .inr ⟨g, cap, cur, e1, h1, (hb.block g (Array.getElem?_eq_some_iff.1 hg).1).trans hg, h2⟩

/-- Two slices that have no block in common. -/
def Apart (u v : Value) : Prop := ∀ k, u.ownBlock = some k → v.ownBlock ≠ some k
theorem Apart.symm {u v : Value} (h : Apart u v) : Apart v u := fun k hv hu => h k hu hv
theorem apart_nil (u : Value) : Apart u (.slice none 0 0) := fun _ _ h => by cases h

/-- v became v' by an append, w became w'. -/
structure Next (w w' : World) (v v' : Value) : Prop where
  grown : w.grownBy w' v.ownBlock
  at_ : v'.ownBlock = v.ownBlock ∨ v'.ownBlock = some w.heap.size
section
variable {w w' : World} {v v' u : Value} {base : Nat} {e : TypeId} {size n : Nat} {ys : List Value}
theorem Next.keep (h : Next w w' v v') (hu : w.ownsRow base e size u n ys) (ha : Apart v u) : w'.ownsRow base e size u n ys := by
  refine hu.kept h.grown ?_
  cases hk : u.ownBlock with
  | none => exact .inl rfl
  | some k => exact .inr fun e => ha k e.symm hk
theorem Next.apart (h : Next w w' v v') (hu : w.ownsRow base e size u n ys) (ha : Apart v u) : Apart v' u := by
  intro k hk hk2
  rcases h.at_ with e | e
  · exact ha k (e ▸ hk) hk2
  · rw [e] at hk
    cases hk
    have := (hu.lt _ hk2).2
    omega
theorem Next.cell (h : Next w w' v v') {a : Addr} {x : Value} (hc : w.cell? a = some x) (hne : some a.block ≠ v.ownBlock) : w'.cell? a = some x := h.grown.cell hc hne
theorem Next.below {w0 : World} {B : Nat} (h : Next w w' v v') (hv : w.ownsRow base e size v n ys) (hb : Below B w0 w) (hB : B ≤ base) (hs : B ≤ w.heap.size) : Below B w0 w' :=
  hb.grown h.grown hs fun k hk => Nat.le_trans hB (hv.lt k hk).1
end

theorem run_app_at (w : World) (ty : TypeId) (base : Nat) (A : Option Addr) (n c : Nat) (xs : List Nat) (hown : w.ownsRow base 5 1 (.slice A n c) n (bvs xs))
    (A2 : Option Addr) (m c2 : Nat) (ys : List Nat) (hin : In w A2 m ys) (hnil : A2 = none → c2 = 0) (hle : n + m ≤ 140737488355328) (hbase : base ≤ w.heap.size) :
    ∃ A' c' w', (Builtin.append_ #[35, 35] ty #[.slice A n c, .slice A2 m c2]).run Tryd.prog w = .ok (.slice A' (n + m) c') w' ∧
      w'.ownsRow base 5 1 (.slice A' (n + m) c') (n + m) (bvs (xs ++ ys)) ∧ Next w w' (.slice A n c) (.slice A' (n + m) c') := by
  obtain ⟨i0, hi, hz0, hz1, hz2⟩ := info_parts infoByte
  cases A2 with
  | none =>
    obtain rfl := hnil rfl
    have hy : ys = [] := by
      cases ys with
      | nil => rfl
      | cons y ys =>
        obtain ⟨ad, e, _⟩ := hin.rd 0 y rfl
        cases e
    subst hy
    obtain rfl : m = 0 := hin.len.symm
    exact ⟨A, c, w, run_append_owned_none (P := Tryd.prog) (w := w) base 35 ty 5 i0 1 Tryd.underlying35 hi _ n (bvs xs) hown, by simpa using hown, ⟨rfl, rfl, rfl, Nat.le_refl _, fun _ _ _ => rfl⟩, .inl rfl⟩
  | some ad =>
    obtain ⟨v', w', hr, h2, h3, _, h5⟩ := run_append_own_at (P := Tryd.prog) (w := w) base 35 ty 5 i0 _ 1 1 Tryd.underlying35 hi hz0 hz1 hz2 rfl (by decide) _ n (bvs xs) hown ad m c2 (bvs ys) (by rw [bvs_length, hin.len]; simp)
      (fun j u hu => by
        rw [bvs_get] at hu
        obtain ⟨y, hy, rfl⟩ := Option.map_eq_some_iff.1 hu
        obtain ⟨ad', e, hc⟩ := hin.rd j y hy
        cases e
        exact hc) (bvs_oneCell ys) (by unfold maxLen; omega) (by omega) hbase
    rw [← bvs_append] at h2
    obtain ⟨A', c', rfl⟩ := own_form h2
    exact ⟨A', c', w', hr, h2, h3, h5⟩

theorem wpList_app_at {ops : Array Oper} {rest : List Oper} {o : Oper} {a : Act} {Q : Exit → Act → World → Prop} (w : World) (hgd : o.guard = none) (s x : Operand)
    (ho : o.op = .call { callee := .builtin .append, args := #[s, x], argTypes := #[35, 35] })
    (base : Nat) (A : Option Addr) (n c : Nat) (xs : List Nat) (hs : a.eval s = .slice A n c) (hown : w.ownsRow base 5 1 (.slice A n c) n (bvs xs))
    (A2 : Option Addr) (m c2 : Nat) (ys : List Nat) (hx : a.eval x = .slice A2 m c2) (hin : In w A2 m ys) (hnil : A2 = none → c2 = 0) (hle : n + m ≤ 140737488355328) (hbase : base ≤ w.heap.size)
    (h : ∀ A' c' w', w'.ownsRow base 5 1 (.slice A' (n + m) c') (n + m) (bvs (xs ++ ys)) → Next w w' (.slice A n c) (.slice A' (n + m) c') → wpList Tryd.prog ops Q rest (a.put o.dst (.slice A' (n + m) c')) w') :
    wpList Tryd.prog ops Q (o :: rest) a w := by
  refine wpList_plain hgd fun K hK => ?_
  obtain ⟨A', c', w', hr, h2, h3⟩ := run_app_at w o.type base A n c xs hown A2 m c2 ys hin hnil hle hbase
  unfold Oper.wp execOp
  simp only [ho, resolve, invoke, builtin, Sem.run_bind, Sem.run_pure, Result.andThen_ok, List.map_toArray, List.map_cons, List.map_nil, hs, hx, hr]
  exact hK _ _ (h A' c' w' h2 h3)

/-- The same in a region that draws, behind '&&' or not. -/
theorem step_app_at {ops : Array Oper} {o : Oper} {a : Act} {w : World} {K : Act → World → Prop} {Q : Exit → Act → World → Prop} {E : Prop} (hw : Region.wanted o (yielded ops a.tmps) = true) (s x : Operand)
    (ho : o.op = .call { callee := .builtin .append, args := #[s, x], argTypes := #[35, 35] })
    (base : Nat) (A : Option Addr) (n c : Nat) (xs : List Nat) (hs : a.eval s = .slice A n c) (hown : w.ownsRow base 5 1 (.slice A n c) n (bvs xs))
    (A2 : Option Addr) (m c2 : Nat) (ys : List Nat) (hx : a.eval x = .slice A2 m c2) (hin : In w A2 m ys) (hnil : A2 = none → c2 = 0) (hle : n + m ≤ 140737488355328) (hbase : base ≤ w.heap.size)
    (h : ∀ A' c' w', w'.ownsRow base 5 1 (.slice A' (n + m) c') (n + m) (bvs (xs ++ ys)) → Next w w' (.slice A n c) (.slice A' (n + m) c') → K (a.put o.dst (.slice A' (n + m) c')) w') :
    if Region.wanted o (yielded ops a.tmps) = true then Oper.wp Tryd.prog o a w K Q else E := by
  rw [if_pos hw]
  obtain ⟨A', c', w', hr, h2, h3⟩ := run_app_at w o.type base A n c xs hown A2 m c2 ys hin hnil hle hbase
  unfold Oper.wp execOp
  simp only [ho, resolve, invoke, builtin, Sem.run_bind, Sem.run_pure, Result.andThen_ok, List.map_toArray, List.map_cons, List.map_nil, hs, hx, hr]
  exact h A' c' w' h2 h3

end Go.Proofs.YtjkohceigdfmjaaDoor

/-
  all: what stands in each sector.
-/
namespace Go.Proofs.YtjkohceigdfmjaaDoor
open Go.RowKit

/-- A row of slices of the call's own gets one more: only that row's block changes. -/
theorem step_rapp1 {ops : Array Oper} {o : Oper} {a : Act} {w : World} {K : Act → World → Prop} {Q : Exit → Act → World → Prop} {E : Prop} (hgd : o.guard = none) (s x : Operand)
    (ho : o.op = .call { callee := .builtin .append, args := #[s, x], argTypes := #[22, 22] })
    (base : Nat) (A : Option Addr) (n c : Nat) (X : List Value) (hs : a.eval s = .slice A n c) (hown : w.ownsRow base 35 1 (.slice A n c) n X)
    (ad : Addr) (c2 : Nat) (y : Value) (hx : a.eval x = .slice (some ad) 1 c2) (hin : w.cell? ad = some y) (h1 : y.oneCell' = true) (hle : n + 1 ≤ 1000000) (hbase : base ≤ w.heap.size)
    (h : ∀ A' c' w', w'.ownsRow base 35 1 (.slice A' (n + 1) c') (n + 1) (X ++ [y]) → Next w w' (.slice A n c) (.slice A' (n + 1) c') → K (a.put o.dst (.slice A' (n + 1) c')) w') :
    if Region.wanted o (yielded ops a.tmps) = true then Oper.wp Tryd.prog o a w K Q else E := by
  have hw : Region.wanted o (yielded ops a.tmps) = true := by simp [Region.wanted, hgd]
  rw [if_pos hw]
  obtain ⟨i0, hi, hz0, hz1, hz2⟩ := info_parts infoSlc
  obtain ⟨v', w', hr, h2, h3, _, h5⟩ := run_append_own_at (P := Tryd.prog) (w := w) base 22 o.type 35 i0 _ 1 24 Tryd.underlying22 hi hz0 hz1 hz2 rfl (by decide) _ n X hown ad 1 c2 [y] rfl
      (fun j u hu => by
        cases j with
        | zero => cases hu; simpa [Addr.add] using hin
        | succ j => simp at hu) (fun u hu => by rw [List.mem_singleton.1 hu]; exact h1) (by unfold maxLen; omega) (by omega) hbase
  have hf : ∃ A c, v' = .slice A (n + 1) c := by
    rcases h2.2 with ⟨rfl, e⟩ | ⟨g, cap, cur, rfl, _⟩
    · omega
    · exact ⟨_, _, rfl⟩
  obtain ⟨A', c', rfl⟩ := hf
  unfold Oper.wp execOp
  simp only [ho, resolve, invoke, builtin, Sem.run_bind, Sem.run_pure, Result.andThen_ok, List.map_toArray, List.map_cons, List.map_nil, hs, hx, hr]
  exact h A' c' w' h2 ⟨h3, h5⟩

/-- Slices of sectors, one for each list of R. -/
structure SecRow (base : Nat) (W : World) (Y : List Value) (R : List (List Nat)) : Prop where
  len : Y.length = R.length
  row : ∀ (j : Nat) (b : List Nat), R[j]? = some b → ∃ s : Nat, Y[j]? = some (Value.slice (some ⟨s, 0, none⟩) 64 64) ∧ base ≤ s ∧ BArr W s 73 b
theorem SecRow.below {base : Nat} {W W' : World} {Y : List Value} {R : List (List Nat)} (h : SecRow base W Y R) (hb : Below W.heap.size W W') : SecRow base W' Y R := ⟨h.len, fun j b hj => by
  obtain ⟨s, e, hs, hr⟩ := h.row j b hj
  exact ⟨s, e, hs, hr.below hb⟩⟩
theorem secRow_snoc {base : Nat} {W : World} {Y : List Value} {R : List (List Nat)} {s : Nat} {b : List Nat} (h : SecRow base W Y R) (hs : base ≤ s) (hb : BArr W s 73 b) : SecRow base W (Y ++ [.slice (some ⟨s, 0, none⟩) 64 64]) (R ++ [b]) :=
  ⟨by rw [List.length_append, List.length_append, h.len]; rfl, fun j x hj => by
    by_cases hlt : j < R.length
    · rw [List.getElem?_append_left hlt] at hj
      rw [List.getElem?_append_left (by rw [h.len]; exact hlt)]
      exact h.row j x hj
    · rw [List.getElem?_append_right (by omega)] at hj
      rw [List.getElem?_append_right (by rw [h.len]; omega), h.len]
      obtain ⟨k, hk⟩ : ∃ k, j - R.length = k := ⟨_, rfl⟩
      rw [hk] at hj ⊢
      cases k with
      | zero => cases hj; exact ⟨s, rfl, hs, hb⟩
      | succ k => simp at hj⟩
/-- The row's own block grows: the sectors lie in others. -/
theorem SecRow.grown {base b0 n c : Nat} {A : Option Addr} {W W' : World} {Y X : List Value} {R : List (List Nat)} (h : SecRow base W Y R) (ho : W.ownsRow b0 35 1 (.slice A n c) n X) (hg : W.grownBy W' (Value.slice A n c).ownBlock) : SecRow base W' Y R := ⟨h.len, fun j b hj => by
  obtain ⟨s, e, hs, hr⟩ := h.row j b hj
  refine ⟨s, e, hs, ?_⟩
  have hlt := (Array.getElem?_eq_some_iff.1 hr).1
  have hne : ∀ k, (Value.slice A n c).ownBlock = some k → k ≠ s := by
    intro k hk e1
    subst e1
    rcases ho.2 with ⟨e2, _⟩ | ⟨g, cap, cur, e2, _, hc, _⟩
    · rw [e2] at hk; cases hk
    · rw [e2] at hk
      cases hk
      have hr' : W.heap[g]? = some (.cells (bvs b).toArray 73 (0, 0)) := hr
      rw [hr'] at hc
      injection hc with hc
      injection hc with _ ht
      exact absurd ht (by decide)
  exact (hg.block s hlt (fun e => hne s e.symm rfl)).trans hr⟩

/-- A list of lists of bytes, all of it in blocks of O. -/
structure RowO (W : World) (O : Nat → Prop) (A : Option Addr) (n : Nat) (R : List (List Nat)) : Prop where
  len : R.length = n
  row : ∀ (r : Nat) (b : List Nat), R[r]? = some b → ∃ (ad : Addr) (B : Option Addr) (m c : Nat), A = some ad ∧ O ad.block ∧ W.cell? (ad.add r) = some (.slice B m c) ∧ Came W B m c b ∧ (∀ x, B = some x → O x.block) ∧ m ≤ 140737488355328
section
variable {W W' : World} {O S : Nat → Prop} {A : Option Addr} {n c : Nat} {R : List (List Nat)}
theorem RowO.came (h : RowO W O A n R) : CameRows W A n R := ⟨h.len, fun r b hr => by
  obtain ⟨ad, B, m, c, e, _, hc, hcame, _, hm⟩ := h.row r b hr
  exact ⟨ad, B, m, c, e, hc, hcame, hm⟩⟩
theorem RowO.but (h : RowO W O A n R) (hb : But S W W') (hO : ∀ x, O x → ¬ S x) : RowO W' O A n R := ⟨h.len, fun r b hr => by
  obtain ⟨ad, B, m, c, e, ho, hc, hcame, hB, hm⟩ := h.row r b hr
  have key : ∀ (p : Addr) (v : Value), O p.block → W.cell? p = some v → W'.cell? p = some v := fun p v hp hv =>
    (World.cell?_of_block (w := W) (hb.block _ (World.block_lt_of_cell? W _ hv) (hO _ hp))).trans hv
  refine ⟨ad, B, m, c, e, ho, key _ _ (by rw [block_add]; exact ho) hc, ⟨⟨hcame.in_.len, fun j x hx => ?_⟩, hcame.lt, hcame.nil, hcame.cap⟩, hB, hm⟩
  obtain ⟨a', e', hv⟩ := hcame.in_.rd j x hx
  exact ⟨a', e', key _ _ (by rw [block_add]; exact hB a' e') hv⟩⟩
theorem RowO.below (h : RowO W O A n R) (hb : Below W.heap.size W W') : RowO W' O A n R := h.but (S := fun _ => False) (But.of_below hb) (fun _ _ hf => hf)
theorem rowO_of {base : Nat} {Y : List Value} (h : W.ownsRow base 35 1 (.slice A n c) n Y) (hY : SecRow base W Y R) (hR : ∀ b ∈ R, Sec b) : RowO W (fun x => base ≤ x ∧ x < W.heap.size) A n R := by
  have hlen : R.length = n := by rw [← hY.len, h.1]; omega
  refine ⟨hlen, fun r b hr => ?_⟩
  obtain ⟨s, hy, hs, hb⟩ := hY.row r b hr
  have hsec := hR b (List.mem_of_getElem? hr)
  rcases h.2 with ⟨e1, h0⟩ | ⟨g, cap, cur, e1, hg, _⟩
  · have := (List.getElem?_eq_some_iff.1 hr).1
    omega
  · cases e1
    have hc := h.cells rfl r _ hy
    refine ⟨_, some ⟨s, 0, none⟩, 64, 64, rfl, ⟨hg, ?_⟩, hc, ⟨⟨hsec.1, fun j x hx => ⟨_, rfl, hb.at_ j x hx⟩⟩, hsec.2, (fun e => by cases e), Nat.le_refl _⟩, fun x hx => ?_, by omega⟩
    · have := World.block_lt_of_cell? W _ hc
      rwa [block_add] at this
    · cases hx
      exact ⟨hs, (Array.getElem?_eq_some_iff.1 hb).1⟩
end

set_option maxRecDepth 100000 in
set_option maxHeartbeats 2000000 in
theorem all_any {w : World} {g L : Nat} {F : Nat → Prop} {st : St} (h : Disk w g F st) (hL : st.sure.length = L) (hL2 : L ≤ 100000) :
    Calls Tryd.prog 18 #[.pointer (some ⟨g, 0, none⟩)] w fun e w' => ∃ A c, e = .returned (.slice A L c) ∧ RowO w' (fun x => w.heap.size ≤ x ∧ x < w'.heap.size) A L st.read ∧ Below w.heap.size w w' := by
  have hsec : ∀ b ∈ st.read, Sec b := h.1.read
  have hrl : st.read.length = L := by rw [st.read_length, hL]
  have HD := Lib.hid (fun (W : World) (hb : Below w.heap.size w W) => h.below hb)
  have HR := Lib.hid (And.intro hsec (And.intro hrl hL))
  have hsz : ∀ x, F x → x < w.heap.size := h.2.2
  clear h hsec hrl hL hsz
  go_enter Tryd.func18, Tryd.ntmps18
  go_wp2_with fail
  go_loopw [3, 4] (fun l i wr => ∃ (j c : Nat) (A : Option Addr) (Y : List Value), j ≤ L ∧ i = .int .i64 (j : Int) ∧ l = .slice A j c ∧ Hid (wr.ownsRow w.heap.size 35 1 (.slice A j c) j Y ∧ SecRow w.heap.size wr Y (st.read.take j) ∧ Below w.heap.size w wr)) (fun _ i _ => L - (intOf i).toNat)
  case atStart => exact ⟨0, 0, none, [], Nat.zero_le _, rfl, rfl, ⟨rfl, .inl ⟨rfl, rfl⟩⟩, ⟨rfl, fun j b hb => by simp at hb⟩, Below.refl _ _⟩
  case round =>
    obtain ⟨j, c, A, Y, hj, rfl, rfl, HO⟩ := hrel
    have CL := Lib.hid (len_any (HD.out wr HO.out.2.2))
    rw [HR.out.2.2] at CL
    go_wp2_with fail
    refine CL.out.mono ?_
    rintro e w1 ⟨rfl, rfl⟩
    by_cases hlt : j < L
    · have hji : (j : Int) < (L : Int) := by omega
      obtain ⟨b, hb⟩ : ∃ b, st.read[j]? = some b := ⟨_, List.getElem?_eq_getElem (by rw [HR.out.2.1]; exact hlt)⟩
      have CR := Lib.hid (read_any hb (HD.out wr HO.out.2.2))
      have HB := Lib.hid hb
      clear CL hb
      go_wp2_with fail
      refine CR.out.mono ?_
      rintro e w2 ⟨rfl, hb2, hbe2⟩
      obtain ⟨s, hs⟩ : ∃ s, wr.heap.size = s := ⟨_, rfl⟩
      have hsw : w.heap.size ≤ s := by rw [← hs]; exact HO.out.2.2.size
      have b3 := below_alloc w2 (.cells #[.slice (some ⟨s, 0, none⟩) 64 64] 35)
      have cell3 : (w2.alloc (.cells #[.slice (some ⟨s, 0, none⟩) 64 64] 35)).cell? ⟨w2.heap.size, 0, none⟩ = some (.slice (some ⟨s, 0, none⟩) 64 64) := by rw [cell_of_row _ _ 0 _ _ (0, 0) (World.alloc_heap_new w2 _)]; rfl
      have ow3 := own_on (own_on HO.out.1 hbe2) b3
      have sr3 := secRow_snoc ((HO.out.2.1.below hbe2).below b3) hsw ((hs ▸ hb2 : BArr w2 s 73 b).below b3)
      have bw3 : Below w.heap.size w (w2.alloc (.cells #[.slice (some ⟨s, 0, none⟩) 64 64] 35)) := below_on (below_on HO.out.2.2 (Nat.le_refl _) hbe2) (Nat.le_refl _) b3
      rw [hs]
      obtain ⟨w3, hw3⟩ : ∃ w3, w3 = w2.alloc (.cells #[.slice (some ⟨s, 0, none⟩) 64 64] 35) := ⟨_, rfl⟩
      rw [← hw3] at cell3 ow3 sr3 bw3 b3
      have HW3 := Lib.hid hw3
      have H3 := Lib.hid (And.intro ow3 (And.intro sr3 (And.intro bw3 cell3)))
      clear hb2 hbe2 b3 cell3 ow3 sr3 bw3 hw3 CR hs
      go_wp2_with (rw [← HW3.out]; refine wpList_step fun K hK => ?_; refine step_rapp1 (K := K) (by rfl) _ _ (by rfl) w.heap.size A j c Y (by rfl) H3.out.1 ⟨w2.heap.size, 0, none⟩ 1 (.slice (some ⟨s, 0, none⟩) 64 64) (by rfl) H3.out.2.2.2 rfl (by omega) H3.out.2.2.1.size ?_; intro A3 c3 W3 ow3 hg3; refine hK _ _ ?_; clear hK K)
      have e4 : st.read.take (j + 1) = st.read.take j ++ [b] := by rw [List.take_add_one, HB.out]; rfl
      have H4 := Lib.hid (And.intro ow3 (And.intro (e4 ▸ H3.out.2.1.grown H3.out.1 hg3.grown : SecRow w.heap.size W3 (Y ++ [.slice (some ⟨s, 0, none⟩) 64 64]) (st.read.take (j + 1))) (H3.out.2.2.1.grown hg3.grown H3.out.2.2.1.size fun k hk => (H3.out.1.lt k hk).1)))
      clear ow3 hg3 e4
      go_roundw
      case rel => exact ⟨j + 1, c3, A3, _, by omega, by go_num, rfl, H4.out⟩
      case measure => simp [intOf]; omega
    · obtain rfl : L = j := by omega
      go_wp2_with fail
      go_ret
      have e : st.read.take L = st.read := by rw [← HR.out.2.1]; exact List.take_length
      refine ⟨A, c, rfl, ?_, HO.out.2.2⟩
      have h2 := HO.out.2.1
      rw [e] at h2
      exact rowO_of HO.out.1 h2 HR.out.1

end Go.Proofs.YtjkohceigdfmjaaDoor

/-
  StoresApart.
-/
namespace Go.Proofs.YtjkohceigdfmjaaDoor
open Go.RowKit

/-- The blocks of two rows. -/
def OwnOf (u v : Value) : Nat → Prop := fun x => u.ownBlock = some x ∨ v.ownBlock = some x
/-- Behind the first j records: R1 went to the first store, R2 to the other one; both are held in rows of slices, too. -/
structure Split (v W : World) (gd s1 f1 s2 f2 n1 c1 n2 c2 : Nat) (A1 A2 : Option Addr) (Y1 Y2 : List Value) (R1 R2 : List (List Nat)) (st : St) : Prop where
  two : Two v W (OwnOf (.slice A1 n1 c1) (.slice A2 n2 c2)) gd s1 f1 160 R1 s2 f2 160 R2 st
  own1 : W.ownsRow v.heap.size 35 1 (.slice A1 n1 c1) n1 Y1
  own2 : W.ownsRow v.heap.size 35 1 (.slice A2 n2 c2) n2 Y2
  rows1 : RowsIs v Y1 R1
  rows2 : RowsIs v Y2 R2
  apart : Apart (.slice A1 n1 c1) (.slice A2 n2 c2)
  small1 : ∀ b ∈ R1, b.length ≤ 256
  small2 : ∀ b ∈ R2, b.length ≤ 256
theorem own_but {W W' : World} {S : Nat → Prop} {base n size : Nat} {e : TypeId} {u : Value} {xs : List Value} (h : W.ownsRow base e size u n xs) (hb : But S W W') (hS : ∀ k, u.ownBlock = some k → ¬ S k) : W'.ownsRow base e size u n xs := by
  refine ⟨h.1, ?_⟩
  rcases h.2 with h1 | ⟨g, cap, cur, e1, h1, hg, h2⟩
  · exact .inl h1
  · refine .inr ⟨g, cap, cur, e1, h1, (hb.block g (Array.getElem?_eq_some_iff.1 hg).1 (hS g (by rw [e1]; rfl))).trans hg, h2⟩
section
variable {v W : World} {gd s1 f1 s2 f2 n1 c1 n2 c2 : Nat} {A1 A2 : Option Addr} {Y1 Y2 : List Value} {R1 R2 : List (List Nat)} {st : St}
theorem Split.symm (h : Split v W gd s1 f1 s2 f2 n1 c1 n2 c2 A1 A2 Y1 Y2 R1 R2 st) : Split v W gd s2 f2 s1 f1 n2 c2 n1 c1 A2 A1 Y2 Y1 R2 R1 st :=
  ⟨(h.two.symm.step (But.refl _ _) (fun _ hx => .inl hx.symm)), h.own2, h.own1, h.rows2, h.rows1, h.apart.symm, h.small2, h.small1⟩
theorem Split.len1 (h : Split v W gd s1 f1 s2 f2 n1 c1 n2 c2 A1 A2 Y1 Y2 R1 R2 st) : R1.length = n1 := by rw [← h.rows1.len, h.own1.1, Nat.mul_one]
theorem split_next (h : Split v W gd s1 f1 s2 f2 n1 c1 n2 c2 A1 A2 Y1 Y2 R1 R2 st) {b : List Nat} (hb256 : b.length ≤ 256) {w6 : World} {st' : St} (ht : Two v w6 (OwnOf (.slice A1 n1 c1) (.slice A2 n2 c2)) gd s1 f1 160 (R1 ++ [b]) s2 f2 160 R2 st') (hbt : But (fun x => ¬ OwnOf (.slice A1 n1 c1) (.slice A2 n2 c2) x) W w6)
    {B : Option Addr} {bl d : Nat} (hcame : Came v B bl d b) (hbl : bl ≤ 140737488355328) {o : Obj} {W8 : World} {A3 : Option Addr} {c3 : Nat} (how : W8.ownsRow v.heap.size 35 1 (.slice A3 (n1 + 1) c3) (n1 + 1) (Y1 ++ [.slice B bl d])) (hn : Next (w6.alloc o) W8 (.slice A1 n1 c1) (.slice A3 (n1 + 1) c3)) :
    Split v W8 gd s1 f1 s2 f2 (n1 + 1) c3 n2 c2 A3 A2 (Y1 ++ [.slice B bl d]) Y2 (R1 ++ [b]) R2 st' := by
  have o2 := own_on (own_but h.own2 hbt (fun x hx hk => hk (.inr hx))) (below_alloc w6 o)
  have t7 := ht.below (below_alloc w6 o)
  refine ⟨t7.step ((But.refl _ _).grown hn.grown (fun k hk _ => .inl hk)) (fun x hx => ?_), how, hn.keep o2 h.apart, h.rows1.append (rowsIs_one hcame hbl), h.rows2, hn.apart o2 h.apart, fun x hx => ?_, h.small2⟩
  · rcases hx with k | k
    · rcases hn.at_ with e | e
      · exact .inl (.inl (e ▸ k))
      · rw [e] at k
        cases k
        exact .inr ⟨Nat.le_refl _, (how.lt _ e).2⟩
    · exact .inl (.inr k)
  · rcases List.mem_append.1 hx with k | k
    · exact h.small1 x k
    · rw [List.mem_singleton.1 k]; exact hb256
end
theorem used_small {R : List (List Nat)} (h : ∀ b ∈ R, b.length ≤ 256) : usedL R ≤ 5 * R.length := by
  have := used_take h R.length
  rwa [List.take_length] at this
set_option maxRecDepth 100000 in
set_option maxHeartbeats 4000000 in
theorem storesApart_law (w : World) (E : Errs) (hE : Laid w E) {A : Option Addr} {n c : Nat} {R : List (List Nat)} (hr : CameRows w A n R) {z : Nat} (_hz : z < 4294967296) :
    Calls Tryd.prog 5 #[.slice A n c, .int .u32 (z : Int)] w fun e w' => e = .returned (.bool true) ∧ Below w.heap.size w w' := by
  have hlen := hr.len
  have HE := Lib.hid hE
  have HR := Lib.hid hr
  have HCA := Lib.hid (fun (W : World) (hb : Below w.heap.size w W) => alive_any E (HE.out.below hb))
  clear hr hE
  go_enter Tryd.func5, Tryd.ntmps5
  go_wp2_with fail
  refine (HCA.out _ (Below.refl _ _)).mono ?_
  rintro e w2 ⟨rfl, hb2⟩
  have HB2 := Lib.hid hb2
  clear hb2
  have CS := Lib.hid (small_all (c := c) (HR.out.below HB2.out))
  go_wp2_with fail
  refine CS.out.mono ?_
  rintro e w3 ⟨zb, rfl, rfl, hzb⟩
  cases zb with
  | false =>
    clear hzb CS
    go_wp2_with fail
    refine (HCA.out _ HB2.out).mono ?_
    rintro e w4 ⟨rfl, hb4⟩
    have HB4 : Hid (Below w.heap.size w w4) := below_on HB2.out (Nat.le_refl _) hb4
    clear hb4
    go_wp2_with fail
    go_ret
    exact ⟨rfl, HB4.out⟩
  | true =>
    have hs : Small R := hzb.1 rfl
    have h30 : n ≤ 30 := by rw [← hlen]; exact hs.1
    have HS := Lib.hid hs
    clear hzb CS hs
    go_wp2_with fail
    refine (new_yes w2 320 (by decide) (by decide)).mono ?_
    rintro e w3 ⟨gd, rfl, hM⟩
    have HB3 : Hid (Below w.heap.size w w3) := below_on HB2.out (Nat.le_refl _) hM.2
    have CO := Lib.hid (open_region (l := []) (from_ := 0) (many := 160) (r := 160) E (fun W' hb => HE.out.below (HB3.out.trans (hb.below HB3.out.size (fun x hx => Nat.le_trans HB2.out.size hx.1)))) hM.1 (by decide) (by show 0 + 160 ≤ (zeros 320).length; rw [zeros_length]; decide) (by show ([] : List (Nat × List Nat)).length ≤ _; simp) rfl (fun b hb => by cases hb) (by rw [usedL_nil]) (by show regionL (zeros 320) 0 160 = _; rw [zeros_region (by decide)]; rfl))
    clear hM
    go_wp2_with fail
    refine CO.out.mono ?_
    rintro e w4 ⟨sa, F4, G4, rfl, hh4, hbt4, hf4, hg4⟩
    have hb4 : Below w.heap.size w w4 := HB3.out.trans (hbt4.below HB3.out.size (fun x hx => Nat.le_trans HB2.out.size hx.1))
    have CO2 := Lib.hid (two_second (f2 := 160) (k2 := 160) E HE.out hb4 hh4 (fun x hx => hx.elim (fun k => (hf4 x k).elim (fun k => Nat.le_trans HB2.out.size k.1) (fun k => Nat.le_trans HB3.out.size k)) (fun k => Nat.le_trans HB3.out.size (hg4 x k))) rfl rfl (by decide) (by show 160 + 160 ≤ (settle (zeros 320) []).length; rw [settle_nil, zeros_length]; decide) (.inl (by decide)) (zeros_region (by decide)) (zeros_region (by decide)))
    clear CO hh4 hbt4 hf4 hg4 hb4
    go_wp2_with fail
    refine CO2.out.mono ?_
    rintro e w5 ⟨sb, st5, rfl, htwo⟩
    have HF := Lib.hid (Split.mk (v := w) (W := w5) (gd := gd) (s1 := sa) (f1 := 0) (s2 := sb) (f2 := 160) (n1 := 0) (c1 := 0) (n2 := 0) (c2 := 0) (A1 := none) (A2 := none) (Y1 := []) (Y2 := []) (R1 := []) (R2 := []) (st := st5) (htwo.step (But.refl _ _) (fun x hx => by rcases hx with k | k <;> cases k)) ⟨rfl, .inl ⟨rfl, rfl⟩⟩ ⟨rfl, .inl ⟨rfl, rfl⟩⟩ (rowsIs_nil w) (rowsIs_nil w) (apart_nil _) (fun b hb => by cases hb) (fun b hb => by cases hb))
    clear CO2 htwo
    go_wp2_with fail
    go_loopw [8, 11, 12, 13] (fun _ one two i wr => ∃ (j n1 c1 n2 c2 : Nat) (A1 A2 : Option Addr) (Y1 Y2 : List Value) (R1 R2 : List (List Nat)) (st : St), j ≤ n ∧ i = .int .i64 (j : Int) ∧ one = .slice A1 n1 c1 ∧ two = .slice A2 n2 c2 ∧ n1 + n2 = j ∧ Hid (Split w wr gd sa 0 sb 160 n1 c1 n2 c2 A1 A2 Y1 Y2 R1 R2 st)) (fun _ _ _ i _ => n - (intOf i).toNat)
    case atStart => exact ⟨0, 0, 0, 0, 0, none, none, [], [], [], [], st5, Nat.zero_le _, rfl, rfl, rfl, rfl, HF.out⟩
    case round =>
      clear HF HB3 HB2
      obtain ⟨j, n1, c1, n2, c2, A1, A2, Y1, Y2, R1, R2, st, hj, rfl, rfl, rfl, hsum, HF⟩ := hrel
      by_cases hlt : j < n
      · have hji : (j : Int) < (n : Int) := by omega
        obtain ⟨b, hbj⟩ : ∃ b, R[j]? = some b := ⟨_, List.getElem?_eq_getElem (by omega)⟩
        obtain ⟨ad, B, bl, d, rfl, hcell0, hcame, hbl⟩ := HR.out.row j b hbj
        have hb256 := HS.out.2 b (List.mem_of_getElem? hbj)
        have hblb := hcame.in_.len
        have HX := Lib.hid (And.intro hbj (And.intro hcell0 (And.intro hcame (And.intro hbl hb256))))
        have hcell := (HF.out.two.bel.cell (World.block_lt_of_cell? w _ hcell0)).trans hcell0
        have u1 := used_small HF.out.small1
        have u2 := used_small HF.out.small2
        rw [HF.out.len1] at u1
        rw [HF.out.symm.len1] at u2
        have hsec := secs_le bl (by omega)
        have CA := Lib.hid (two_add HF.out.two hcame (by omega) (by omega))
        have CB := Lib.hid (two_add HF.out.symm.two hcame (by omega) (by omega))
        clear hcell0 hbj hb256 hblb hcame hbl u1 u2 hsec
        go_wp2_with fail
        · refine CA.out.mono ?_
          rintro e w6 ⟨rfl, hbt6, st6, ht6⟩
          have b7 := below_alloc w6 (.cells #[.slice B bl d] 35)
          have hc6 := (ht6.bel.cell (World.block_lt_of_cell? w _ HX.out.2.1)).trans HX.out.2.1
          have cell7 : (w6.alloc (.cells #[.slice B bl d] 35)).cell? ⟨w6.heap.size, 0, none⟩ = some (.slice B bl d) := by rw [cell_of_row _ _ 0 _ _ (0, 0) (World.alloc_heap_new w6 _)]; rfl
          have ow7 := own_on (own_but HF.out.own1 hbt6 (fun x hx hk => hk (.inl hx))) b7
          obtain ⟨w7, hw7⟩ : ∃ w7, w7 = w6.alloc (.cells #[.slice B bl d] 35) := ⟨_, rfl⟩
          have hsz7 : w.heap.size ≤ w7.heap.size := by rw [hw7]; exact Nat.le_trans ht6.bel.size b7.size
          rw [← hw7] at cell7 ow7
          have HW7 := Lib.hid hw7
          have H7 := Lib.hid (And.intro ow7 (And.intro cell7 (And.intro hbt6 ht6)))
          clear CA CB b7 cell7 ow7 hw7 hbt6 ht6 hcell
          go_wp2_with (rw [← HW7.out]; refine wpList_step fun K hK => ?_; refine step_rapp1 (K := K) (by rfl) _ _ (by rfl) w.heap.size A1 n1 c1 Y1 (by rfl) H7.out.1 ⟨w6.heap.size, 0, none⟩ 1 (.slice B bl d) (by rfl) H7.out.2.1 rfl (by omega) hsz7 ?_; intro A3 c3 W3 ow3 hn3; refine hK _ _ ?_; clear hK K)
          have HF8 := Lib.hid (split_next HF.out HX.out.2.2.2.2 H7.out.2.2.2 H7.out.2.2.1 HX.out.2.2.1 HX.out.2.2.2.1 ow3 (HW7.out ▸ hn3))
          clear ow3 hn3 hc6
          go_wp2_with fail
          go_roundw
          case rel => exact ⟨j + 1, n1 + 1, c3, n2, c2, A3, A2, _, Y2, _, R2, st6, by omega, by go_num, rfl, rfl, by omega, HF8.out⟩
          case measure => simp [intOf]; omega
        · refine CB.out.mono ?_
          rintro e w6 ⟨rfl, hbt6, st6, ht6⟩
          have b7 := below_alloc w6 (.cells #[.slice B bl d] 35)
          have hc6 := (ht6.bel.cell (World.block_lt_of_cell? w _ HX.out.2.1)).trans HX.out.2.1
          have cell7 : (w6.alloc (.cells #[.slice B bl d] 35)).cell? ⟨w6.heap.size, 0, none⟩ = some (.slice B bl d) := by rw [cell_of_row _ _ 0 _ _ (0, 0) (World.alloc_heap_new w6 _)]; rfl
          have ow7 := own_on (own_but HF.out.symm.own1 hbt6 (fun x hx hk => hk (.inl hx))) b7
          obtain ⟨w7, hw7⟩ : ∃ w7, w7 = w6.alloc (.cells #[.slice B bl d] 35) := ⟨_, rfl⟩
          have hsz7 : w.heap.size ≤ w7.heap.size := by rw [hw7]; exact Nat.le_trans ht6.bel.size b7.size
          rw [← hw7] at cell7 ow7
          have HW7 := Lib.hid hw7
          have H7 := Lib.hid (And.intro ow7 (And.intro cell7 (And.intro hbt6 ht6)))
          clear CA CB b7 cell7 ow7 hw7 hbt6 ht6 hcell
          go_wp2_with (rw [← HW7.out]; refine wpList_step fun K hK => ?_; refine step_rapp1 (K := K) (by rfl) _ _ (by rfl) w.heap.size A2 n2 c2 Y2 (by rfl) H7.out.1 ⟨w6.heap.size, 0, none⟩ 1 (.slice B bl d) (by rfl) H7.out.2.1 rfl (by omega) hsz7 ?_; intro A3 c3 W3 ow3 hn3; refine hK _ _ ?_; clear hK K)
          have HF8 := Lib.hid (split_next HF.out.symm HX.out.2.2.2.2 H7.out.2.2.2 H7.out.2.2.1 HX.out.2.2.1 HX.out.2.2.2.1 ow3 (HW7.out ▸ hn3))
          clear ow3 hn3 hc6
          go_wp2_with fail
          go_roundw
          case rel => exact ⟨j + 1, n1, c1, n2 + 1, c3, A1, A3, Y1, _, R1, _, st6, by omega, by go_num, rfl, rfl, by omega, HF8.out.symm⟩
          case measure => simp [intOf]; omega
      · obtain rfl : n = j := by omega
        have CO := Lib.hid (two_open E HE.out HF.out.two (by decide))
        go_wp2_with fail
        refine CO.out.mono ?_
        rintro e w6 ⟨s3, G3, rfl, hs3, hbt6, st6, ht6⟩
        have CP := Lib.hid (two_open E HE.out ht6.symm (by decide))
        have H6 := Lib.hid (And.intro hs3 hbt6)
        clear CO hs3 hbt6 ht6
        go_wp2_with fail
        refine CP.out.mono ?_
        rintro e w7 ⟨s4, G4, rfl, hs4, hbt7, st7, ht7⟩
        have hs3 := H6.out.1.but hbt7 (fun x hx hk => hk (.inr hx))
        have o1 := own_but (own_but HF.out.own1 H6.out.2 (fun k hk hn => hn (.inl hk))) hbt7 (fun k hk hn => hn (.inl (.inl hk)))
        have o2 := own_but (own_but HF.out.own2 H6.out.2 (fun k hk hn => hn (.inr hk))) hbt7 (fun k hk hn => hn (.inl (.inr hk)))
        obtain ⟨F7, G1, G2, _, hb7, ha7, _⟩ := ht7.ex
        have r1 := (rowIn_of_own o1 HF.out.rows1).came ht7.bel
        have r2 := (rowIn_of_own o2 HF.out.rows2).came ht7.bel
        have l1 := HF.out.len1
        have l2 := HF.out.symm.len1
        have CH1 := Lib.hid (fun (W : World) (hb : Below w7.heap.size w7 W) => has_yes (c := c1) (ha7.below hb) (r1.below hb) (fun i b h => h) (Nat.le_of_eq l1) (by omega))
        have CH2 := Lib.hid (fun (W : World) (hb : Below w7.heap.size w7 W) => has_yes (c := c2) (hb7.below hb) (r2.below hb) (fun i b h => h) (Nat.le_of_eq l2) (by omega))
        have CH3 := Lib.hid (fun (W : World) (hb : Below w7.heap.size w7 W) => has_yes (c := c1) (hs3.below hb) (r1.below hb) (fun i b h => h) (Nat.le_of_eq l1) (by omega))
        have CH4 := Lib.hid (fun (W : World) (hb : Below w7.heap.size w7 W) => has_yes (c := c2) (hs4.below hb) (r2.below hb) (fun i b h => h) (Nat.le_of_eq l2) (by omega))
        have CL3 := Lib.hid (fun (W : World) (hb : Below w7.heap.size w7 W) => (by
          obtain ⟨⟨v, vals, hh⟩, _⟩ := hs3.below hb
          have := slen_sto hh
          rw [l1] at this
          exact this : Calls Tryd.prog 15 #[.pointer (some ⟨s3, 0, none⟩)] W fun e w' => e = .returned (.int .i64 (n1 : Int)) ∧ W = w'))
        have CL4 := Lib.hid (fun (W : World) (hb : Below w7.heap.size w7 W) => (by
          obtain ⟨⟨v, vals, hh⟩, _⟩ := hs4.below hb
          have := slen_sto hh
          rw [l2] at this
          exact this : Calls Tryd.prog 15 #[.pointer (some ⟨s4, 0, none⟩)] W fun e w' => e = .returned (.int .i64 (n2 : Int)) ∧ W = w'))
        have HB7 := Lib.hid ht7.bel
        clear CP hs4 hbt7 ht7 hs3 o1 o2 hb7 ha7 r1 r2 l1 l2 HF H6
        go_wp2_with fail
        refine (CH1.out _ (Below.refl _ _)).mono ?_
        rintro e w8 ⟨rfl, hb8⟩
        have H8 := Lib.hid hb8
        clear hb8
        go_wp2_with fail
        refine (CH2.out _ H8.out).mono ?_
        rintro e w9 ⟨rfl, hb9⟩
        have H9 := Lib.hid (below_on H8.out (Nat.le_refl _) hb9)
        clear hb9
        go_wp2_with fail
        refine (CH3.out _ H9.out).mono ?_
        rintro e w10 ⟨rfl, hb10⟩
        have H10 := Lib.hid (below_on H9.out (Nat.le_refl _) hb10)
        clear hb10
        go_wp2_with fail
        refine (CH4.out _ H10.out).mono ?_
        rintro e w11 ⟨rfl, hb11⟩
        have H11 := Lib.hid (below_on H10.out (Nat.le_refl _) hb11)
        clear hb11
        go_wp2_with fail
        refine (CL3.out _ H11.out).mono ?_
        rintro e w12 ⟨rfl, rfl⟩
        go_wp2_with fail
        refine (CL4.out _ H11.out).mono ?_
        rintro e w12 ⟨rfl, rfl⟩
        go_wp2_with fail
        go_ret
        exact ⟨rfl, below_on HB7.out (Nat.le_refl _) H11.out⟩

end Go.Proofs.YtjkohceigdfmjaaDoor

/-
  What the three listed variables hold when a call begins.
-/
namespace Go.Proofs.YtjkohceigdfmjaaDoor
open Go.ChangeShapes Go.WideShapes Go.ChangeAt Go.RowKit

theorem gShort : Tryd.prog.globalNamed "almoner/frames.errShort" = some 0 := by kernel_rfl
theorem gForm : Tryd.prog.globalNamed "almoner/frames.errForm" = some 2 := by kernel_rfl
theorem gSum : Tryd.prog.globalNamed "almoner/frames.errSum" = some 1 := by kernel_rfl
theorem tShort : (Tryd.prog.globals[0]?).map (·.type) = some 95 := by kernel_rfl
theorem tForm : (Tryd.prog.globals[2]?).map (·.type) = some 95 := by kernel_rfl
theorem tSum : (Tryd.prog.globals[1]?).map (·.type) = some 95 := by kernel_rfl
theorem cellsEs : Tryd.prog.cellsOf 166 = 1 := by kernel_rfl
theorem cellsStr : Tryd.prog.cellsOf 9 = 1 := by kernel_rfl
theorem starEs : "*" ++ "errors.errorString" = "*errors.errorString" := by decide
theorem rowEs (u : TypeId) (h : Tryd.prog.typeName? 3 u = some "*errors.errorString") : u = 142 :=
  typeName_ptr_named (nm := "errors.errorString") (by rw [starEs]; kernel_rfl) (by kernel_rfl) (by decide) u (by rw [starEs]; exact h)

def laid3 : List (String × DataW Unit) := [("almoner/frames.errShort", Rows.laid_almoner_frames_errShort), ("almoner/frames.errForm", Rows.laid_almoner_frames_errForm), ("almoner/frames.errSum", Rows.laid_almoner_frames_errSum)]

set_option maxRecDepth 100000 in
theorem of_laid {W : World} (h : laidMetH Tryd.prog laid3 W) : ∃ E, Laid W E := by
  rw [MakeChecks.laidMetH_plain _ _ _ (by kernel_rfl)] at h
  obtain ⟨ps, ⟨g0', t0', cs0, f0, p0, q0, hg0', ht0', hv0, hd0, ⟨g1', t1', cs1, f1, p1, q1, hg1', ht1', hv1, hd1, ⟨g2', t2', cs2, f2, p2, q2, hg2', ht2', hv2, hd2, _, e2⟩, e1⟩, e0⟩, hnd, hrows⟩ := h
  obtain rfl := Option.some.inj (gShort.symm.trans hg0')
  obtain rfl := Option.some.inj (gForm.symm.trans hg1')
  obtain rfl := Option.some.inj (gSum.symm.trans hg2')
  obtain rfl := Option.some.inj (tShort.symm.trans ht0')
  obtain rfl := Option.some.inj (tForm.symm.trans ht1')
  obtain rfl := Option.some.inj (tSum.symm.trans ht2')
  subst e2
  subst e1
  subst e0
  obtain ⟨l0⟩ := cs0
  obtain ⟨l1⟩ := cs1
  obtain ⟨l2⟩ := cs2
  have ok0 : ∀ u v, l0 = [.iface u v] → Value.okWide Tryd.prog W .any 0 u v := fun u v e => by
    subst e
    exact (hrows 0 0 (by simp [MemPlace.row])).2 u v (by simpa using World.var?_cell hg0' hv0 0)
  have ok1 : ∀ u v, l1 = [.iface u v] → Value.okWide Tryd.prog W .any 0 u v := fun u v e => by
    subst e
    exact (hrows 2 0 (by simp [MemPlace.row])).2 u v (by simpa using World.var?_cell hg1' hv1 0)
  have ok2 : ∀ u v, l2 = [.iface u v] → Value.okWide Tryd.prog W .any 0 u v := fun u v e => by
    subst e
    exact (hrows 1 0 (by simp [MemPlace.row])).2 u v (by simpa using World.var?_cell hg2' hv2 0)
  obtain ⟨a0, s0, rfl, hc0, hs0, hz0, rfl⟩ := errorString_of_trod Tryd.underlying95 rowEs Tryd.underlying142 Tryd.underlying166 rfl rfl Tryd.underlying9 cellsEs cellsStr hd0 ok0
  obtain ⟨a1, s1, rfl, hc1, hs1, hz1, rfl⟩ := errorString_of_trod Tryd.underlying95 rowEs Tryd.underlying142 Tryd.underlying166 rfl rfl Tryd.underlying9 cellsEs cellsStr hd1 ok1
  obtain ⟨a2, s2, rfl, hc2, hs2, hz2, rfl⟩ := errorString_of_trod Tryd.underlying95 rowEs Tryd.underlying142 Tryd.underlying166 rfl rfl Tryd.underlying9 cellsEs cellsStr hd2 ok2
  have hb0 := (hrows a0.block a0.off (by simp [MemPlace.row])).1
  have hb1 := (hrows a1.block a1.off (by simp [MemPlace.row])).1
  have hb2 := (hrows a2.block a2.off (by simp [MemPlace.row])).1
  refine ⟨⟨a0, a1, a2⟩, by simpa using World.var?_cell hg0' hv0 0, by simpa using World.var?_cell hg1' hv1 0, by simpa using World.var?_cell hg2' hv2 0, ?_, ?_, ?_, ?_⟩
  · intro b
    cases b
    · exact hb0
    · exact hb1
    · exact hb2
  · show a0 ≠ a1
    rintro rfl
    simp [MemPlace.row] at hnd
  · show a0 ≠ a2
    rintro rfl
    simp [MemPlace.row] at hnd
  · show a1 ≠ a2
    rintro rfl
    simp [MemPlace.row] at hnd

end Go.Proofs.YtjkohceigdfmjaaDoor
