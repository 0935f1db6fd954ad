/-
  Several texts in one: GRootLaw, GTwoMem, LInB, DBoolArg, GTwoLaw.
-/
import Derived.Test.YtijiolebcnlfgaaDoorGAlive
import Derived.Test.YtijiolebcnlfgaaDoorLRowS
import Derived.Test.YtijiolebcnlfgaaDoorLPre
import Derived.Test.YtijiolebcnlfgaaDoorLRow
import Derived.Test.YtijiolebcnlfgaaDoorLByte
import Derived.Deep.Grids
import Derived.Deep.SlicePairs
import Derived.Deep.MidRow
import Derived.Deep.CutRange
/-
  almonerlaw09.FrontsRoot.
-/
namespace Go.Proofs.YtijiolebcnlfgaaDoor
open Go.RowKit

theorem sums_of {w : World} {A : Option Addr} {n : Nat} {ys : List Nat} (h : InS w A n ys) (hx : ∀ x ∈ ys, x < 256) : Sums32 (nth ys) n := ⟨fun _ hj => nth_length h.len hj, fun j _ => nth_lt hx j⟩

/-- A front of the first j sums, laid since w. -/
structure Grown_ (w W : World) (g : Nat) (f : Nat → List Nat) (j : Nat) : Prop where
  front : Front W g f j
  bel : Below w.heap.size w W
  ge : w.heap.size ≤ g
theorem Grown_.below {w W W' : World} {g j : Nat} {f : Nat → List Nat} (h : Grown_ w W g f j) (hb : Below W.heap.size W W') : Grown_ w W' g f j := ⟨h.front.below hb, below_on h.bel (Nat.le_refl _) hb, h.ge⟩
theorem grown_add {w W : World} {g j n : Nat} {f : Nat → List Nat} (h : Grown_ w W g f j) (hf : Sums32 f n) (hj : j < n) (hn : n ≤ 999999) (hk : Knows w) (hs : Starts w) {s : List Nat} (hsj : f j = s) :
    Calls Tryd.prog 7 #[.pointer (some ⟨g, 0, none⟩), sv s] W fun e W' => e = .returned (.int .i64 0) ∧ Grown_ w W' g f (j + 1) ∧ But (fun b => b = g) W W' := by
  subst hsj
  exact (add_front h.front (hf.mono (by omega)) (by omega) (hk.below h.bel) (hs.below h.bel)).mono fun e W' ⟨he, hf', hb⟩ => ⟨he, ⟨hf', h.bel.trans (hb.below h.bel.size fun b hb => by rw [hb]; exact h.ge), h.ge⟩, hb⟩

set_option maxRecDepth 100000 in
set_option maxHeartbeats 4000000 in
theorem root_else (w : World) (hk : Knows w) (hs : Starts w) (A : Option Addr) (n c z : Nat) (h : 150 < n) :
    Calls Tryd.prog 4 #[.slice A n c, .int .u8 (z : Int)] w fun e w' => e = .returned (.bool true) ∧ Below w.heap.size w w' := by
  have C := Lib.hid (galive_any w hk hs)
  have h1 : (150 : Int) < (n : Int) := by omega
  go_enter Tryd.func4, Tryd.ntmps4
  go_wp2_with fail
  refine C.out.mono ?_
  rintro e w2 ⟨rfl, hb⟩
  go_wp2_with fail
  go_ret
  exact ⟨rfl, hb⟩

set_option maxRecDepth 100000 in
set_option maxHeartbeats 4000000 in
theorem root_law_some (w : World) (hk : Knows w) (hs : Starts w) (A : Option Addr) (n c z : Nat) (ys : List Nat) (h : CameS w A n c ys) (hn : n ≤ 150) (hz : z < 256) :
    Calls Tryd.prog 4 #[.slice A n c, .int .u8 (z : Int)] w fun e w' => e = .returned (.bool true) ∧ Below w.heap.size w w' := by
  have hf := sums_of h.in_ h.lt
  have C0 := Lib.hid (new_front (nth ys) w)
  have h1 : ¬ ((150 : Int) < (n : Int)) := by omega
  have HC := Lib.hid h
  have HF := Lib.hid hf
  obtain ⟨m, hm⟩ : ∃ m, z % 4 = m := ⟨_, rfl⟩
  have hm4 : m < 4 := by omega
  have ht : Int.tmod (z : Int) 4 = (m : Int) := by rw [Int.tmod_eq_emod_of_nonneg (by omega)]; omega
  have ht2 : (z : Int) % 4 = (m : Int) := by omega
  clear h hf hm
  go_enter Tryd.func4, Tryd.ntmps4
  go_wp2_with fail
  refine C0.out.mono ?_
  rintro e w1 ⟨rfl, hf1, hb1⟩
  have G1 := Lib.hid (show Grown_ w w1 w.heap.size (nth ys) 0 from ⟨hf1, hb1, Nat.le_refl _⟩)
  clear hf1 hb1 C0
  obtain ⟨g, hg⟩ : ∃ g, w.heap.size = g := ⟨_, rfl⟩
  rw [hg] at G1 ⊢
  have HG := Lib.hid hg
  clear hg
  go_wp2
  go_loopw [6, 7] (fun i _ wr => ∃ j : Nat, j ≤ n ∧ i = .int .i64 (j : Int) ∧ Hid (Grown_ w wr g (nth ys) j)) (fun i _ _ => n - (intOf i).toNat)
  case atStart => exact ⟨0, Nat.zero_le _, rfl, G1⟩
  case round =>
    clear G1
    obtain ⟨j, hj, rfl, HJ⟩ := hrel
    by_cases hlt : j < n
    · have hji : (j : Int) < (n : Int) := by omega
      go_wp2
      go_loopw [7] (fun k wr => ∃ q : Nat, q ≤ m ∧ k = .int .i64 (q : Int) ∧ Hid (Grown_ w wr g (nth ys) j)) (fun k _ => m - (intOf k).toNat)
      case atStart => exact ⟨0, Nat.zero_le _, rfl, HJ⟩
      case round =>
        clear HJ
        obtain ⟨q, hq, rfl, HJ⟩ := hrel
        by_cases hqm : q < m
        · have hqi : (q : Int) < (m : Int) := by omega
          have CR := Lib.hid (root_front HJ.out.front (HF.out.mono hj) (by omega) (hk.below HJ.out.bel) (hs.below HJ.out.bel))
          go_wp2_with fail
          refine CR.out.mono ?_
          rintro e w2 ⟨rfl, hb2⟩
          have HJ2 := Lib.hid (HJ.out.below hb2)
          have CS := Lib.hid (sums_front HJ2.out.front (by omega))
          clear hb2 CR
          go_wp2_with fail
          refine CS.out.mono ?_
          rintro e w3 ⟨A3, c3, rfl, _, hb3⟩
          have HJ3 := Lib.hid (HJ2.out.below hb3)
          clear hb3 CS
          go_wp2_with fail
          go_roundw
          case rel => exact ⟨q + 1, by omega, by go_num, HJ3⟩
          case measure => simp [intOf]; omega
        · have hqi : ¬ ((q : Int) < (m : Int)) := by omega
          obtain ⟨ad, rfl, hl, hat⟩ := HC.out.in_.at_ hlt
          obtain ⟨s, hsj⟩ : ∃ s, nth ys j = s := ⟨_, rfl⟩
          rw [hsj] at hl hat
          have HAt := Lib.hid (hat.below HJ.out.bel)
          have CA := Lib.hid (grown_add HJ.out HF.out hlt (by omega) hk hs hsj)
          clear hsj hat
          go_wp2_with (refine wpList_load_sum rfl (.tmp 33) rfl (ad.add (j * 32)) rfl s hl HAt.out ?_)
          refine CA.out.mono ?_
          rintro e w4 ⟨rfl, g4, _⟩
          have G4 := Lib.hid g4
          clear g4 CA
          go_wp2_with fail
          go_roundw
          case rel => exact ⟨j + 1, by omega, by go_num, G4⟩
          case measure => simp [intOf]; omega
    · obtain rfl : j = n := by omega
      have hji : ¬ ((j : Int) < (j : Int)) := by omega
      have CA := Lib.hid (galive_any _ (hk.below HJ.out.bel) (hs.below HJ.out.bel))
      have hRl : (rt (nth ys) 0 j).length = 32 := rt_length _ 0 j fun i hi => by rw [Nat.zero_add]; exact HF.out.len i hi
      obtain ⟨R, hR⟩ : ∃ R, rt (nth ys) 0 j = R := ⟨_, rfl⟩
      have HR := Lib.hid hR
      rw [hR] at hRl
      have q1 := run_eql_sum R R hRl hRl
      rw [decide_eq_true rfl] at q1
      have q2 := run_guard_eql
      have hwj : IntKind.u64.wrap (j : Int) = (j : Int) := by rw [IntKind.wrap_u64]; omega
      clear hR
      go_wp2_with fail
      refine CA.out.mono ?_
      rintro e w2 ⟨rfl, hb2⟩
      have H2 := Lib.hid (HJ.out.below hb2)
      have C2 := Lib.hid (root_front H2.out.front HF.out (by omega) (hk.below H2.out.bel) (hs.below H2.out.bel))
      rw [HR.out] at C2
      clear CA hb2
      go_wp2_with fail
      refine C2.out.mono ?_
      rintro e w3 ⟨rfl, hb3⟩
      have H3 := Lib.hid (H2.out.below hb3)
      have C3 := Lib.hid (root_any A j c ys w3 (HC.out.in_.below H3.out.bel) HC.out.lt HC.out.cap (by omega) (hk.below H3.out.bel) (hs.below H3.out.bel))
      rw [HR.out] at C3
      clear C2 hb3
      go_wp2_with fail
      refine C3.out.mono ?_
      rintro e w4 ⟨rfl, hb4⟩
      have H4 := Lib.hid (H3.out.below hb4)
      have C4 := Lib.hid (size_front H4.out.front)
      clear C3 hb4
      go_wp2_with fail
      refine C4.out.mono ?_
      rintro e w5 ⟨rfl, rfl⟩
      go_wp2_with fail
      go_ret
      exact ⟨rfl, by rw [HG.out]; have := H4.out.bel; rw [HG.out] at this; exact this⟩

theorem frontsRoot_law (w : World) (hk : Knows w) (hs : Starts w) {A : Option Addr} {n c z : Nat} {ys : List Nat} (h : CameS w A n c ys) (hz : z < 256) :
    Calls Tryd.prog 4 #[.slice A n c, .int .u8 (z : Int)] w fun e w' => e = .returned (.bool true) ∧ Below w.heap.size w w' := by
  by_cases hn : 150 < n
  · exact root_else w hk hs A n c z hn
  · exact root_law_some w hk hs A n c z ys h (by omega) hz

end Go.Proofs.YtijiolebcnlfgaaDoor

/-
  Two fronts and two lists of the call's own, apart from one another.
-/
namespace Go.Proofs.YtijiolebcnlfgaaDoor
open Go.RowKit

/-- The blocks that turn: both fronts', both lists'. -/
def TurnS (g1 g2 : Nat) (u v : Value) (b : Nat) : Prop := b = g1 ∨ b = g2 ∨ u.ownBlock = some b ∨ v.ownBlock = some b
theorem TurnS.symm {g1 g2 b : Nat} {u v : Value} (h : TurnS g2 g1 v u b) : TurnS g1 g2 u v b := by
  rcases h with h | h | h | h
  · exact .inr (.inl h)
  · exact .inl h
  · exact .inr (.inr (.inr h))
  · exact .inr (.inr (.inl h))

/-- A front none of whose trees lie in these blocks. -/
def FrontC (W : World) (g : Nat) (f : Nat → List Nat) (n : Nat) (S : Nat → Prop) : Prop := ∃ A c, FrontAt W g f n A c ∧ ∀ ad, A = some ad → ad.block < W.heap.size ∧ ¬ S ad.block
theorem FrontC.front {W : World} {g : Nat} {f : Nat → List Nat} {n : Nat} {S : Nat → Prop} (h : FrontC W g f n S) : Front W g f n := by
  obtain ⟨A, c, h, _⟩ := h
  exact ⟨A, c, h⟩
theorem FrontC.lt {W : World} {g : Nat} {f : Nat → List Nat} {n : Nat} {S : Nat → Prop} (h : FrontC W g f n S) : g < W.heap.size := h.front.lt
theorem FrontC.row {W : World} {g : Nat} {f : Nat → List Nat} {n : Nat} {S : Nat → Prop} (h : FrontC W g f n S) : ∃ cs, W.heap[g]? = some (.cells cs 28 (0, 0)) := by
  obtain ⟨A, c, h, _⟩ := h
  exact ⟨_, h.row⟩
theorem FrontC.keep {W W' : World} {g : Nat} {f : Nat → List Nat} {n : Nat} {S S' : Nat → Prop} (h : FrontC W g f n S) (hg : W'.heap[g]? = W.heap[g]?) (hsz : W.heap.size ≤ W'.heap.size)
    (hb : ∀ b, b < W.heap.size → ¬ S b → W'.heap[b]? = W.heap[b]?) (hS : ∀ b, b < W.heap.size → ¬ S b → ¬ S' b) : FrontC W' g f n S' := by
  obtain ⟨A, c, h, hc⟩ := h
  exact ⟨A, c, h.keep hg (fun ad e => hb _ (hc ad e).1 (hc ad e).2), fun ad e => ⟨Nat.lt_of_lt_of_le (hc ad e).1 hsz, hS _ (hc ad e).1 (hc ad e).2⟩⟩
theorem FrontC.congr {W : World} {g : Nat} {f f' : Nat → List Nat} {n : Nat} {S : Nat → Prop} (h : FrontC W g f n S) (hf : ∀ j, j < n → f j = f' j) : FrontC W g f' n S := by
  obtain ⟨A, c, h, hc⟩ := h
  refine ⟨A, c, ⟨h.row, ?_, h.cap, h.nil, h.off⟩, hc⟩
  have e := fr_congr f f' n 0 0 fun j hj => by rw [Nat.zero_add]; exact hf j hj
  rw [← e]
  exact h.trees

set_option maxRecDepth 100000 in
set_option maxHeartbeats 1000000 in
theorem new_front_at (f : Nat → List Nat) (w : World) : Calls Tryd.prog 12 #[] w fun e w' => e = .returned (.pointer (some ⟨w.heap.size, 0, none⟩)) ∧ FrontAt w' w.heap.size f 0 none 0 ∧ Below w.heap.size w w' := by
  go_enter Tryd.func12, Tryd.ntmps12
  go_wp2
  go_ret
  refine ⟨rfl, ⟨by rw [pop_zero]; exact World.alloc_heap_new w _, ?_, by rw [pop_zero]; exact Nat.le_refl _, fun _ => rfl, fun ad e => by cases e⟩, below_alloc w _⟩
  rw [fr_nil, pop_zero]
  exact InS.none_ _ _

theorem own_ne {W : World} {base g n : Nat} {v : Value} {xs : List Value} {cs : Array Value} (h : W.ownsRow base 23 32 v n xs) (hg : W.heap[g]? = some (.cells cs 28 (0, 0))) : v.ownBlock ≠ some g := by
  intro e
  rcases h.2 with ⟨e1, _⟩ | ⟨g', cap, cur, e1, _, hg', _⟩
  · rw [e1] at e; cases e
  · rw [e1] at e
    cases e
    rw [hg'] at hg
    cases hg
theorem own_blocks {w w' : World} {base : Nat} {e : TypeId} {size : Nat} {v : Value} {n : Nat} {xs : List Value} (h : w.ownsRow base e size v n xs) (hb : ∀ k, v.ownBlock = some k → w'.heap[k]? = w.heap[k]?) : w'.ownsRow base e size v n xs := by
  refine ⟨h.1, ?_⟩
  rcases h.2 with ⟨e1, h0⟩ | ⟨g, cap, cur, e1, h1, hg, h2⟩
  · exact .inl ⟨e1, h0⟩
  · exact .inr ⟨g, cap, cur, e1, h1, (hb g (by rw [e1]; rfl)).trans hg, h2⟩

structure TwoF (w W : World) (g1 g2 : Nat) (F1 F2 : Nat → List Nat) (n1 n2 : Nat) (xs ys : List Nat) (p q : Nat) (u v : Value) : Prop where
  f1 : FrontC W g1 F1 n1 (TurnS g1 g2 u v)
  f2 : FrontC W g2 F2 n2 (TurnS g1 g2 u v)
  o1 : W.ownsRow w.heap.size 23 32 u p (bvs xs)
  o2 : W.ownsRow w.heap.size 23 32 v q (bvs ys)
  ap : Apart u v
  ne : g1 ≠ g2
  ge1 : w.heap.size ≤ g1
  ge2 : w.heap.size ≤ g2
  lt1 : ∀ x ∈ xs, x < 256
  lt2 : ∀ x ∈ ys, x < 256
  bel : Below w.heap.size w W

section
variable {w W W' : World} {g1 g2 n1 n2 p q : Nat} {F1 F2 : Nat → List Nat} {xs ys : List Nat} {u v : Value}
theorem TwoF.symm (h : TwoF w W g1 g2 F1 F2 n1 n2 xs ys p q u v) : TwoF w W g2 g1 F2 F1 n2 n1 ys xs q p v u :=
  ⟨h.f2.keep rfl (Nat.le_refl _) (fun _ _ _ => rfl) (fun _ _ hn hs => hn hs.symm), h.f1.keep rfl (Nat.le_refl _) (fun _ _ _ => rfl) (fun _ _ hn hs => hn hs.symm), h.o2, h.o1, h.ap.symm, Ne.symm h.ne, h.ge2, h.ge1, h.lt2, h.lt1, h.bel⟩
theorem TwoF.below (h : TwoF w W g1 g2 F1 F2 n1 n2 xs ys p q u v) (hb : Below W.heap.size W W') : TwoF w W' g1 g2 F1 F2 n1 n2 xs ys p q u v :=
  ⟨h.f1.keep (hb.block _ h.f1.lt) hb.size (fun b hl _ => hb.block b hl) (fun _ _ hn => hn), h.f2.keep (hb.block _ h.f2.lt) hb.size (fun b hl _ => hb.block b hl) (fun _ _ hn => hn), own_on h.o1 hb, own_on h.o2 hb, h.ap, h.ne, h.ge1, h.ge2, h.lt1, h.lt2, below_on h.bel (Nat.le_refl _) hb⟩
theorem TwoF.congr1 {F : Nat → List Nat} (h : TwoF w W g1 g2 F1 F2 n1 n2 xs ys p q u v) (hf : ∀ j, j < n1 → F1 j = F j) : TwoF w W g1 g2 F F2 n1 n2 xs ys p q u v :=
  ⟨h.f1.congr hf, h.f2, h.o1, h.o2, h.ap, h.ne, h.ge1, h.ge2, h.lt1, h.lt2, h.bel⟩
theorem TwoF.congr2 {F : Nat → List Nat} (h : TwoF w W g1 g2 F1 F2 n1 n2 xs ys p q u v) (hf : ∀ j, j < n2 → F2 j = F j) : TwoF w W g1 g2 F1 F n1 n2 xs ys p q u v :=
  ⟨h.f1, h.f2.congr hf, h.o1, h.o2, h.ap, h.ne, h.ge1, h.ge2, h.lt1, h.lt2, h.bel⟩

/-- One more in the first front. -/
theorem two_add1 (h : TwoF w W g1 g2 F1 F2 n1 n2 xs ys p q u v) (hf : Sums32 F1 (n1 + 1)) (hn : n1 < 999999) (hk : Knows w) (hs : Starts w) {s : List Nat} (hsj : F1 n1 = s) :
    Calls Tryd.prog 7 #[.pointer (some ⟨g1, 0, none⟩), sv s] W fun e W' => e = .returned (.int .i64 0) ∧ TwoF w W' g1 g2 F1 F2 (n1 + 1) n2 xs ys p q u v := by
  subst hsj
  refine (add_front_at h.f1.front hf hn (hk.below h.bel) (hs.below h.bel)).mono ?_
  rintro e W' ⟨he, ⟨A', c', hf', hnew⟩, hb⟩
  obtain ⟨cs1, hr1⟩ := h.f1.row
  have k1 := h.f1.lt
  have k2 := h.f2.lt
  refine ⟨he, ⟨A', c', hf', fun ad ea => ⟨(hnew ad ea).2, ?_⟩⟩, ?_, ?_, ?_, h.ap, h.ne, h.ge1, h.ge2, h.lt1, h.lt2, ?_⟩
  · have := (hnew ad ea).1
    rintro (e1 | e1 | e1 | e1)
    · omega
    · omega
    · have := (h.o1.lt _ e1).2; omega
    · have := (h.o2.lt _ e1).2; omega
  · exact h.f2.keep (hb.block _ k2 (Ne.symm h.ne)) hb.size (fun b hl hn => hb.block b hl (fun e => hn (.inl e))) (fun _ _ hn => hn)
  · exact own_blocks h.o1 fun k e => hb.block k (h.o1.lt k e).2 (fun e2 => own_ne h.o1 hr1 (by rw [e, e2]))
  · exact own_blocks h.o2 fun k e => hb.block k (h.o2.lt k e).2 (fun e2 => own_ne h.o2 hr1 (by rw [e, e2]))
  · exact h.bel.trans (hb.below h.bel.size fun b e => by rw [e]; exact h.ge1)

/-- One more in the first list. -/
theorem two_app1 {A A' : Option Addr} {c c' p' : Nat} {s : List Nat} (h : TwoF w W g1 g2 F1 F2 n1 n2 xs ys p q (.slice A p c) v) (hN : Next W W' (.slice A p c) (.slice A' p' c'))
    (ho : W'.ownsRow w.heap.size 23 32 (.slice A' p' c') p' (bvs (xs ++ s))) (hs : ∀ x ∈ s, x < 256) : TwoF w W' g1 g2 F1 F2 n1 n2 (xs ++ s) ys p' q (.slice A' p' c') v := by
  obtain ⟨cs1, hr1⟩ := h.f1.row
  obtain ⟨cs2, hr2⟩ := h.f2.row
  have hblk : ∀ b, b < W.heap.size → ¬ TurnS g1 g2 (.slice A p c) v b → W'.heap[b]? = W.heap[b]? := fun b hl hn => hN.grown.block b hl (fun e => hn (.inr (.inr (.inl e.symm))))
  have hS : ∀ b, b < W.heap.size → ¬ TurnS g1 g2 (.slice A p c) v b → ¬ TurnS g1 g2 (.slice A' p' c') v b := by
    intro b hl hn hs
    rcases hs with e | e | e | e
    · exact hn (.inl e)
    · exact hn (.inr (.inl e))
    · rcases hN.at_ with e2 | e2
      · exact hn (.inr (.inr (.inl (e2 ▸ e))))
      · rw [e2] at e; cases e; omega
    · exact hn (.inr (.inr (.inr e)))
  refine ⟨h.f1.keep (hN.grown.block _ h.f1.lt (fun e => own_ne h.o1 hr1 e.symm)) hN.grown.size hblk hS, h.f2.keep (hN.grown.block _ h.f2.lt (fun e => own_ne h.o1 hr2 e.symm)) hN.grown.size hblk hS, ho, hN.keep h.o2 h.ap, hN.apart h.o2 h.ap, h.ne, h.ge1, h.ge2,
    fun x hx => ?_, h.lt2, hN.below h.o1 h.bel (Nat.le_refl _) h.bel.size⟩
  rcases List.mem_append.1 hx with hx | hx
  · exact h.lt1 x hx
  · exact hs x hx
end

/-- The sums of a list, one more behind them. -/
theorem nth_snoc {xs s : List Nat} {p : Nat} (hl : xs.length = 32 * p) (hs : s.length = 32) : (∀ j, j < p → nth xs j = nth (xs ++ s) j) ∧ nth (xs ++ s) p = s := by
  constructor
  · intro j hj
    rw [nth, nth, List.drop_append_of_le_length (by omega), List.take_append_of_le_length (by rw [List.length_drop]; omega)]
  · rw [nth, ← hl, List.drop_left', List.take_of_length_le (by omega)]
    rfl

end Go.Proofs.YtijiolebcnlfgaaDoor

/-
  A slice that reads as bools.
-/
namespace Go.Proofs.YtijiolebcnlfgaaDoor
open Go.RowKit

/-- '.slice A n c' reads as these bools. -/
structure InB (w : World) (A : Option Addr) (n : Nat) (ks : List Bool) : Prop where
  len : ks.length = n
  rd : ∀ j x, ks[j]? = some x → ∃ ad, A = some ad ∧ w.cell? (ad.add j) = some (.bool x)
theorem InB.below {w w' : World} {A : Option Addr} {n : Nat} {ks : List Bool} (h : InB w A n ks) (hb : Below w.heap.size w w') : InB w' A n ks := ⟨h.len, fun j x hx => by
  obtain ⟨ad, e, hc⟩ := h.rd j x hx
  exact ⟨ad, e, (hb.cell (World.block_lt_of_cell? w _ hc)).trans hc⟩⟩
theorem InB.none_ (w : World) (A : Option Addr) : InB w A 0 [] := ⟨rfl, fun j x h => by simp at h⟩


end Go.Proofs.YtijiolebcnlfgaaDoor

/-
  Arguments []bool, [2][]bool.
-/
namespace Go.Proofs.YtijiolebcnlfgaaDoor
open Go.ChangeShapes Go.WideShapes Go.ChangeAt Go.RowKit Go.Deep

/-- A slice of bools that came in. -/
structure CameBools (w : World) (A : Option Addr) (n c : Nat) (ks : List Bool) : Prop where
  in_ : InB w A n ks
  cap : n ≤ c

theorem came_bools {H : Type} {enc : TypeId × Value → H} {w : World} {base fuel n c : Nat} {held : Bool} {A : Option Addr} {x : DataW H × List MemPlace} (h : DataW.trod enc Tryd.prog w base (fun _ => true) held fuel 42 [.slice A n c] = some x) :
    ∃ ks, CameBools w A n c ks := by
  rcases open_bools Tryd.underlying42 Tryd.underlying4 (by kernel_rfl) h with ⟨hcs, _⟩ | ⟨a, len, cap, B, hcs, _, hl, _, _, hcell⟩
  · simp at hcs
    obtain ⟨rfl, rfl, rfl⟩ := hcs
    exact ⟨[], InB.none_ _ _, Nat.le_refl _⟩
  · simp at hcs
    obtain ⟨rfl, rfl, rfl⟩ := hcs
    refine ⟨(List.range n).map B, ⟨by simp, fun j x hx => ⟨a, rfl, ?_⟩⟩, hl⟩
    rw [List.getElem?_map] at hx
    obtain ⟨j', hj', rfl⟩ := Option.map_eq_some_iff.1 hx
    have hlt : j < n := by have := (List.getElem?_eq_some_iff.1 hj').1; rwa [List.length_range] at this
    rw [List.getElem?_range hlt] at hj'
    cases hj'
    exact hcell j (by omega)

theorem CameBools.below {w w' : World} {A : Option Addr} {n c : Nat} {ks : List Bool} (h : CameBools w A n c ks) (hb : Below w.heap.size w w') : CameBools w' A n c ks := ⟨h.in_.below hb, h.cap⟩

end Go.Proofs.YtijiolebcnlfgaaDoor

/-
  almonerlaw09.FrontsTwo.
-/
namespace Go.Proofs.YtijiolebcnlfgaaDoor
open Go.RowKit

set_option maxRecDepth 100000 in
set_option maxHeartbeats 4000000 in
theorem two_else (w : World) (hk : Knows w) (hs : Starts w) (A : Option Addr) (n c : Nat) (B : Option Addr) (m d : Nat) (h : 150 < n ∨ 1000 < m) :
    Calls Tryd.prog 6 #[.slice A n c, .slice B m d] w fun e w' => e = .returned (.bool true) ∧ Below w.heap.size w w' := by
  have C := Lib.hid (galive_any w hk hs)
  by_cases h0 : 150 < n
  · have h1 : (150 : Int) < (n : Int) := by omega
    go_enter Tryd.func6, Tryd.ntmps6
    go_wp2_with fail
    refine C.out.mono ?_
    rintro e w2 ⟨rfl, hb⟩
    go_wp2_with fail
    go_ret
    exact ⟨rfl, hb⟩
  · have h1 : ¬ ((150 : Int) < (n : Int)) := by omega
    have h2 : (1000 : Int) < (m : Int) := by omega
    go_enter Tryd.func6, Tryd.ntmps6
    go_wp2_with fail
    refine C.out.mono ?_
    rintro e w2 ⟨rfl, hb⟩
    go_wp2_with fail
    go_ret
    exact ⟨rfl, hb⟩

theorem one_flat2 (X : List Nat) : [X].flatten = X := by simp
theorem below_setCells {B b : Nat} {w0 : World} (hB : B ≤ b) : ∀ (vs : List Value) (o : Nat) (w : World), Below B w0 w → Below B w0 (w.setCells b o vs)
  | [], _, _, h => h
  | v :: r, o, w, h => by rw [World.setCells]; exact below_setCells hB r (o + 1) _ (h.setCell (by show B ≤ b; exact hB) v)
theorem there_own {w : World} {base g n c : Nat} {xs : List Value} {e : TypeId} (h : w.ownsRow base e 32 (.slice (some ⟨g, 0, none⟩) n c) n xs) : w.there g 0 (n * 32) := by
  rcases h.2 with ⟨e1, _⟩ | ⟨g', cap, cur, e1, _, hg, hnc, _, hsz, _⟩
  · cases e1
  · cases e1
    intro j hj
    have hlt : 0 + j < cur.size := by rw [hsz]; have := Nat.mul_le_mul_right 32 hnc; omega
    refine ⟨?_, frozen_of_row _ _ _ _ _ hg⟩
    rw [cell_of_row _ _ _ _ _ (0, 0) hg, Array.getElem?_eq_getElem hlt]
    rfl
theorem there_part {w : World} {g n k : Nat} (h : w.there g 0 (n * 32)) (hk : k < n) : w.there g (k * 32) 32 := fun j hj => by
  have := h (k * 32 + j) (by have := Nat.mul_le_mul_right 32 (show k + 1 ≤ n by omega); omega)
  rwa [Nat.zero_add] at this
def nineL : List Nat := 9 :: List.replicate 31 0

set_option maxRecDepth 100000 in
set_option maxHeartbeats 4000000 in
theorem two_law_some (w : World) (hk : Knows w) (hs : Starts w) (A : Option Addr) (n c : Nat) (zs : List Nat) (B : Option Addr) (m d : Nat) (ks : List Bool) (h : CameS w A n c zs) (hb : InB w B m ks) (hn : n ≤ 150) (hm : m ≤ 1000) :
    Calls Tryd.prog 6 #[.slice A n c, .slice B m d] w fun e w' => e = .returned (.bool true) ∧ Below w.heap.size w w' := by
  have C0 := Lib.hid (new_front_at (nth []) w)
  have h1 : ¬ ((150 : Int) < (n : Int)) := by omega
  have h2 : ¬ ((1000 : Int) < (m : Int)) := by omega
  have HC := Lib.hid h
  have HB := Lib.hid hb
  clear h hb
  go_enter Tryd.func6, Tryd.ntmps6
  go_wp2_with fail
  refine C0.out.mono ?_
  rintro e w1 ⟨rfl, hf1, hb1⟩
  have C1 := Lib.hid (new_front_at (nth []) w1)
  have H1 := Lib.hid (And.intro hf1 hb1)
  clear hf1 hb1 C0
  go_wp2_with fail
  refine C1.out.mono ?_
  rintro e w2 ⟨rfl, hf2, hb2⟩
  have T0 := Lib.hid (show TwoF w w2 w.heap.size w1.heap.size (nth []) (nth []) 0 0 [] [] 0 0 (.slice none 0 0) (.slice none 0 0) from by
    have g1 := H1.out.1.below hb2
    have hne : w.heap.size ≠ w1.heap.size := by have := H1.out.1.lt; omega
    exact ⟨⟨none, 0, g1, fun ad e => by cases e⟩, ⟨none, 0, hf2, fun ad e => by cases e⟩, own_none _ _ _ _, own_none _ _ _ _, apart_nil _, hne, Nat.le_refl _, H1.out.2.size, (fun x hx => by cases hx), (fun x hx => by cases hx), below_on H1.out.2 (Nat.le_refl _) hb2⟩)
  clear hf2 hb2 C1 H1
  obtain ⟨g1, hg1⟩ : ∃ g1, w.heap.size = g1 := ⟨_, rfl⟩
  obtain ⟨g2, hg2⟩ : ∃ g2, w1.heap.size = g2 := ⟨_, rfl⟩
  have T1 : Hid (TwoF w w2 g1 g2 (nth []) (nth []) 0 0 [] [] 0 0 (.slice none 0 0) (.slice none 0 0)) := by rw [← hg1, ← hg2]; exact T0
  rw [hg2, hg1]
  have HG := Lib.hid hg1
  clear T0 hg1 hg2
  go_wp2
  go_loopw [7, 8, 9, 10, 11] (fun x y i _ _ wr => ∃ (j p q : Nat) (xs ys : List Nat) (Ax Ay : Option Addr) (cx cy : Nat), j ≤ n ∧ i = .int .i64 (j : Int) ∧ p + q = j ∧ x = .slice Ax p cx ∧ y = .slice Ay q cy ∧ Hid (TwoF w wr g1 g2 (nth xs) (nth ys) p q xs ys p q (.slice Ax p cx) (.slice Ay q cy))) (fun _ _ i _ _ _ => n - (intOf i).toNat)
  case atStart => exact ⟨0, 0, 0, [], [], none, none, 0, 0, Nat.zero_le _, rfl, rfl, rfl, rfl, T1⟩
  case round =>
    clear T1
    obtain ⟨j, p, q, xs, ys, Ax, Ay, cx, cy, hj, rfl, hpq, rfl, rfl, HT⟩ := hrel
    by_cases hlt : j < n
    · have hji : (j : Int) < (n : Int) := by omega
      obtain ⟨ad, rfl, hl, hat⟩ := HC.out.in_.at_ hlt
      obtain ⟨s, hsj⟩ : ∃ s, nth zs j = s := ⟨_, rfl⟩
      have hsb : ∀ x ∈ s, x < 256 := by rw [← hsj]; exact nth_lt HC.out.lt j
      rw [hsj] at hl hat
      have HAt := Lib.hid (fun (W : World) (hW : Below w.heap.size w W) => hat.below hW)
      have HSB := Lib.hid hsb
      clear hsj hat hsb
      have hpl : ys.length = 32 * q := by have := HT.out.o2.1; rw [bvs_length] at this; omega
      have hpx : xs.length = 32 * p := by have := HT.out.o1.1; rw [bvs_length] at this; omega
      obtain ⟨b, hbj⟩ : ∃ b, b = (decide (j < m) && ks.getD j false) := ⟨_, rfl⟩
      go_upto_region 9 with fail
      go_cut [38] from 29 to 38 (fun s38 wx => s38 = .bool b ∧ wx = wr)
      case first =>
        by_cases hjm : j < m
        · have hjmi : (j : Int) < (m : Int) := by omega
          obtain ⟨b', hb⟩ : ∃ b', ks[j]? = some b' := ⟨_, List.getElem?_eq_getElem (by rw [HB.out.len]; exact hjm)⟩
          obtain ⟨ab, rfl, hcb⟩ := HB.out.rd j b' hb
          have hcb2 := (HT.out.bel.cell (World.block_lt_of_cell? w _ hcb)).trans hcb
          have hbb : b = b' := by rw [hbj, decide_eq_true hjm, List.getD_eq_getElem?_getD, hb]; rfl
          subst hbb
          clear hcb hb hbj
          go_wp2_with fail
          all_goals
            go_meet
            case rel => exact ⟨rfl, rfl⟩
        · have hjmi : ¬ ((j : Int) < (m : Int)) := by omega
          have hbb : b = false := by rw [hbj, decide_eq_false hjm]; rfl
          subst hbb
          clear hbj
          go_wp2_with fail
          go_meet
          case rel => exact ⟨rfl, rfl⟩
      case rest =>
      obtain ⟨rfl, rfl⟩ := hcut
      clear hbj
      go_upto_if 38 with fail
      go_cut [7, 8] from 39 to 64 (fun x y wx => ∃ (p' q' : Nat) (xs' ys' : List Nat) (Ax' Ay' : Option Addr) (cx' cy' : Nat), p' + q' = j + 1 ∧ x = .slice Ax' p' cx' ∧ y = .slice Ay' q' cy' ∧ Hid (TwoF w wx g1 g2 (nth xs') (nth ys') p' q' xs' ys' p' q' (.slice Ax' p' cx') (.slice Ay' q' cy')))
      case first =>
        cases b with
        | false =>
          have hsn := nth_snoc hpx hl
          have hfs : Sums32 (nth (xs ++ s)) (p + 1) := ⟨fun i hi => nth_length (by rw [List.length_append, hpx, hl]; omega) hi, fun i _ => nth_lt (fun x hx => by rcases List.mem_append.1 hx with hx | hx; exact HT.out.lt1 x hx; exact HSB.out x hx) i⟩
          have CA := Lib.hid (two_add1 (HT.out.congr1 hsn.1) hfs (by omega) hk hs hsn.2)
          clear hsn hfs
          go_wp2_with (refine wpList_load_sum rfl (.tmp 55) rfl (ad.add (j * 32)) rfl s hl (HAt.out _ HT.out.bel) ?_)
          refine CA.out.mono ?_
          rintro e w3 ⟨rfl, t3⟩
          have HT3 := Lib.hid t3
          have HT4 := Lib.hid (t3.below (below_alloc w3 (.cells (bvs s).toArray 23)))
          clear CA t3
          go_wp2_with (first
            | refine wpList_load_sum rfl (.tmp 61) rfl (ad.add (j * 32)) rfl s hl (HAt.out _ HT3.out.bel) ?_
            | (refine wpList_step fun K hK => ?_; rw [if_pos (by rfl)]; refine wp_sums (K := K) _ [s] 1 rfl rfl (by simp <;> rfl) (by intro x hx; simp at hx; rw [hx]; exact hl) (by omega) (by omega) ?_; rw [one_flat2]; refine hK _ _ ?_; clear hK K)
            | (refine wpList_step fun K hK => ?_; refine step_sapp (K := K) (by rfl) _ _ (by rfl) w.heap.size Ax p cx xs (by rfl) HT4.out.o1 (some ⟨w3.heap.size, 0, none⟩) 1 1 s (by rfl) ⟨by rw [hl], (In.new' w3 s 23).rd⟩ (fun e => by cases e) (by omega) HT4.out.bel.size ?_; intro A5 c5 w5 ow5 nx5; have HT5 := Lib.hid (two_app1 HT4.out nx5 ow5 HSB.out); clear ow5 nx5; refine hK _ _ ?_; clear hK K))
          go_meet
          case rel => exact ⟨p + 1, q, xs ++ s, ys, A5, Ay, c5, cy, by omega, rfl, rfl, HT5⟩
        | true =>
          have hsn := nth_snoc hpl hl
          have hfs : Sums32 (nth (ys ++ s)) (q + 1) := ⟨fun i hi => nth_length (by rw [List.length_append, hpl, hl]; omega) hi, fun i _ => nth_lt (fun x hx => by rcases List.mem_append.1 hx with hx | hx; exact HT.out.symm.lt1 x hx; exact HSB.out x hx) i⟩
          have CA := Lib.hid (two_add1 (HT.out.symm.congr1 hsn.1) hfs (by omega) hk hs hsn.2)
          clear hsn hfs
          go_wp2_with (refine wpList_load_sum rfl (.tmp 42) rfl (ad.add (j * 32)) rfl s hl (HAt.out _ HT.out.bel) ?_)
          refine CA.out.mono ?_
          rintro e w3 ⟨rfl, t3⟩
          have HT3 := Lib.hid t3
          have HT4 := Lib.hid (t3.below (below_alloc w3 (.cells (bvs s).toArray 23)))
          clear CA t3
          go_wp2_with (first
            | refine wpList_load_sum rfl (.tmp 48) rfl (ad.add (j * 32)) rfl s hl (HAt.out _ HT3.out.bel) ?_
            | (refine wpList_step fun K hK => ?_; rw [if_pos (by rfl)]; refine wp_sums (K := K) _ [s] 1 rfl rfl (by simp <;> rfl) (by intro x hx; simp at hx; rw [hx]; exact hl) (by omega) (by omega) ?_; rw [one_flat2]; refine hK _ _ ?_; clear hK K)
            | (refine wpList_step fun K hK => ?_; refine step_sapp (K := K) (by rfl) _ _ (by rfl) w.heap.size Ay q cy ys (by rfl) HT4.out.o1 (some ⟨w3.heap.size, 0, none⟩) 1 1 s (by rfl) ⟨by rw [hl], (In.new' w3 s 23).rd⟩ (fun e => by cases e) (by omega) HT4.out.bel.size ?_; intro A5 c5 w5 ow5 nx5; have HT5 := Lib.hid (two_app1 HT4.out nx5 ow5 HSB.out); clear ow5 nx5; refine hK _ _ ?_; clear hK K))
          go_meet
          case rel => exact ⟨p, q + 1, xs, ys ++ s, Ax, A5, cx, c5, by omega, rfl, rfl, Lib.hid HT5.out.symm⟩
      case rest =>
        clear HT hpl hpx HAt hl HSB
        obtain ⟨p', q', xs', ys', Ax', Ay', cx', cy', hpq', rfl, rfl, HT'⟩ := hcut
        have CS := Lib.hid (sums_front HT'.out.f1.front (by omega))
        go_wp2_with fail
        refine CS.out.mono ?_
        rintro e w3 ⟨A3, c3, rfl, ho3, hb3⟩
        have hmp := pop_le p'
        obtain ⟨m', hm'⟩ : ∃ m', pop p' = m' := ⟨_, rfl⟩
        rw [hm'] at ho3 hmp ⊢
        obtain ⟨gs, hgs⟩ : ∃ gs, 0 < m' → A3 = some ⟨gs, 0, none⟩ ∧ wc.heap.size ≤ gs ∧ w3.there gs 0 (m' * 32) := by
          rcases ho3.2 with ⟨e1, h0⟩ | ⟨g', cap, cur, e1, hge, _⟩
          · exact ⟨0, fun h => by omega⟩
          · cases e1
            exact ⟨g', fun _ => ⟨rfl, hge, there_own ho3⟩⟩
        have HB3 := Lib.hid hb3
        have HGS := Lib.hid hgs
        clear ho3 hb3 hgs hm' CS
        go_wp2
        go_loopw [11] (fun v wr => ∃ k : Nat, k ≤ m' ∧ v = .int .i64 (k : Int) ∧ Hid (Below wc.heap.size wc wr ∧ (0 < m' → wr.there gs 0 (m' * 32)))) (fun v _ => m' - (intOf v).toNat)
        case atStart => exact ⟨0, Nat.zero_le _, rfl, Lib.hid ⟨HB3.out, fun h => (HGS.out h).2.2⟩⟩
        case round =>
          clear HB3
          obtain ⟨k, hk2, rfl, HK⟩ := hrel
          by_cases hkm : k < m'
          · have hki : (k : Int) < (m' : Int) := by omega
            obtain ⟨rfl, hge, _⟩ := HGS.out (by omega)
            have hth := there_part (HK.out.2 (by omega)) hkm
            have hsz : (Tryd.prog.info? 23).map (·.size) = some (bvs nineL).toArray.size := by rw [List.size_toArray, bvs_length]; exact sizeSum
            have hone := all_oneCell_toArray (bvs_oneCell nineL)
            have hsz2 : (bvs nineL).toArray.size = 32 := rfl
            have HTH := Lib.hid (And.intro hth (And.intro hsz (And.intro hone hsz2)))
            clear hth hsz hone hsz2
            go_wp2_with (with_reducible refine wpList_store_mid rfl 23 (.tmp 76) (.tmp 75) rfl gs (k * 32) (bvs nineL).toArray ?hx ?hy (by rw [HTH.out.2.2.2]; exact HTH.out.1) HTH.out.2.1 HTH.out.2.2.1 ?_)
            case hy => rfl
            exact ⟨⟨k + 1, by omega, by go_num, Lib.hid ⟨below_setCells hge _ _ _ HK.out.1, fun h => World.there_setCells (HK.out.2 h) _ _ _⟩⟩, by simp [intOf]; omega⟩
          · obtain rfl : k = m' := by omega
            have hki : ¬ ((k : Int) < (k : Int)) := by omega
            have HT9 := Lib.hid (HT'.out.below HK.out.1)
            go_wp2_with fail
            go_roundw
            case rel => exact ⟨j + 1, p', q', xs', ys', Ax', Ay', cx', cy', by omega, by go_num, hpq', rfl, rfl, HT9⟩
            case measure => simp [intOf]; omega
    · obtain rfl : j = n := by omega
      have hji : ¬ ((j : Int) < (j : Int)) := by omega
      have hpl : ys.length = 32 * q := by have := HT.out.o2.1; rw [bvs_length] at this; omega
      have hpx : xs.length = 32 * p := by have := HT.out.o1.1; rw [bvs_length] at this; omega
      have hf1 : Sums32 (nth xs) p := ⟨fun i hi => nth_length hpx hi, fun i _ => nth_lt HT.out.lt1 i⟩
      have hf2 : Sums32 (nth ys) q := ⟨fun i hi => nth_length hpl hi, fun i _ => nth_lt HT.out.lt2 i⟩
      have CA := Lib.hid (galive_any _ (hk.below HT.out.bel) (hs.below HT.out.bel))
      have hRl : (rt (nth xs) 0 p).length = 32 := rt_length _ 0 p fun i hi => by rw [Nat.zero_add]; exact hf1.len i hi
      have hTl : (rt (nth ys) 0 q).length = 32 := rt_length _ 0 q fun i hi => by rw [Nat.zero_add]; exact hf2.len i hi
      obtain ⟨R, hR⟩ : ∃ R, rt (nth xs) 0 p = R := ⟨_, rfl⟩
      obtain ⟨T, hT⟩ : ∃ T, rt (nth ys) 0 q = T := ⟨_, rfl⟩
      have HR := Lib.hid (And.intro hR hT)
      have HFF := Lib.hid (And.intro hf1 hf2)
      rw [hR] at hRl
      rw [hT] at hTl
      have q1 := run_eql_sum R R hRl hRl
      rw [decide_eq_true rfl] at q1
      have q3 := run_eql_sum T T hTl hTl
      rw [decide_eq_true rfl] at q3
      have q2 := run_guard_eql
      clear hR hT hf1 hf2 hpl hpx
      go_wp2_with fail
      refine CA.out.mono ?_
      rintro e w2 ⟨rfl, hb2⟩
      have H2 := Lib.hid (HT.out.below hb2)
      have C2 := Lib.hid (root_front H2.out.f1.front HFF.out.1 (by omega) (hk.below H2.out.bel) (hs.below H2.out.bel))
      rw [HR.out.1] at C2
      clear CA hb2
      go_wp2_with fail
      refine C2.out.mono ?_
      rintro e w3 ⟨rfl, hb3⟩
      have H3 := Lib.hid (H2.out.below hb3)
      have C3 := Lib.hid (root_any Ax p cx xs w3 (InS.of_own H3.out.o1) H3.out.lt1 (own_cap H3.out.o1) (by omega) (hk.below H3.out.bel) (hs.below H3.out.bel))
      rw [HR.out.1] at C3
      clear C2 hb3
      go_wp2_with fail
      refine C3.out.mono ?_
      rintro e w4 ⟨rfl, hb4⟩
      have H4 := Lib.hid (H3.out.below hb4)
      have C4 := Lib.hid (root_front H4.out.f2.front HFF.out.2 (by omega) (hk.below H4.out.bel) (hs.below H4.out.bel))
      rw [HR.out.2] at C4
      clear C3 hb4
      go_wp2_with fail
      refine C4.out.mono ?_
      rintro e w5 ⟨rfl, hb5⟩
      have H5 := Lib.hid (H4.out.below hb5)
      have C5 := Lib.hid (root_any Ay q cy ys w5 (InS.of_own H5.out.o2) H5.out.lt2 (own_cap H5.out.o2) (by omega) (hk.below H5.out.bel) (hs.below H5.out.bel))
      rw [HR.out.2] at C5
      clear C4 hb5
      go_wp2_with fail
      refine C5.out.mono ?_
      rintro e w6 ⟨rfl, hb6⟩
      have H6 := Lib.hid (H5.out.below hb6)
      clear C5 hb6
      go_wp2_with fail
      go_ret
      exact ⟨rfl, by have := H6.out.bel; first | exact this | (rw [HG.out] at this ⊢; exact this)⟩

theorem frontsTwo_law (w : World) (hk : Knows w) (hs : Starts w) {A : Option Addr} {n c : Nat} {zs : List Nat} {B : Option Addr} {m d : Nat} {ks : List Bool} (h : CameS w A n c zs) (hb : CameBools w B m d ks) :
    Calls Tryd.prog 6 #[.slice A n c, .slice B m d] w fun e w' => e = .returned (.bool true) ∧ Below w.heap.size w w' := by
  by_cases h1 : 150 < n ∨ 1000 < m
  · exact two_else w hk hs A n c B m d h1
  · exact two_law_some w hk hs A n c zs B m d ks h hb.in_ (by omega) (by omega)

end Go.Proofs.YtijiolebcnlfgaaDoor
