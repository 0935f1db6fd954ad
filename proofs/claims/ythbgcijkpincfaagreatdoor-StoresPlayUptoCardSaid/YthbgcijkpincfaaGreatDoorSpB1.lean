/-
  Several texts in one: DTurn, DBlown, LInB, DFail, PRep, PRead, PWrite, PSync, PNew, PFail, PTurnNo, PTurn, DTurnBad, TUni, TRSto, TRMore, LRef1, FPut, FRefPutN, SumRef, LApp2, FRefPut, TRBytes, TChunk, TOthers, TSteps, TCalls, TAdd, TRHeld.
-/
import Derived.Test.YthbgcijkpincfaaGreatDoorDSync
import Derived.Test.YthbgcijkpincfaaGreatDoorDRead
import Derived.Test.YthbgcijkpincfaaGreatDoorLPre
import Derived.Deep.Cut
import Derived.StillTailTactics
import Derived.Test.YthbgcijkpincfaaGreatDoorTPure
import Derived.Test.YthbgcijkpincfaaGreatDoorLRows
import Derived.Deep.AppendLies
import Derived.Laws.EntriesVeiled
import Derived.Test.YthbgcijkpincfaaGreatDoorTSto
import Derived.Deep.RegionHeld3
import Derived.Test.YthbgcijkpincfaaGreatDoorLMem
import Derived.Deep.QuietTactic
import Derived.BigQuiet
import Derived.Test.YthbgcijkpincfaaGreatDoorFNum
import Derived.Test.YthbgcijkpincfaaGreatDoorFBack
import Derived.Lib.SmallJoins
import Derived.ArgAppend
import Derived.Test.YthbgcijkpincfaaGreatDoorSumOn
import Derived.Maps.AppendAt
import Derived.RangeFuncNested
import Derived.RangeFuncBound
import Derived.RangeFuncCalls
import Derived.RangeFuncLeaves
import Derived.Shelf.Abstract
import Derived.WalkKit
import Derived.OwnWalkIn
import Derived.TacticsInMore
import Derived.LoopNIn
import Derived.LoopIn
import Derived.Test.YthbgcijkpincfaaGreatDoorSumChunk
import Derived.Test.YthbgcijkpincfaaGreatDoorTSeq
import Derived.Test.YthbgcijkpincfaaGreatDoorTTight
/-
  disks: Turn.
-/
namespace Go.Proofs.YthbgcijkpincfaaGreatDoor
open Go.RowKit

set_option maxRecDepth 100000 in
set_option maxHeartbeats 1000000 in
theorem turn_no (p : Option Addr) (n k b : Value) (w : World) (h : NoDisk w p) :
    Calls Tryz.prog 18 #[.pointer p, n, k, b] w fun e w' => e = .returned (.int .i64 2) ∧ w = w' := by
  go_enter Tryz.func18, Tryz.ntmps18
  go_wp2_with fail
  refine (isThere_no p w h).mono ?_
  rintro e w1 ⟨rfl, rfl⟩
  go_wp2
  go_ret
  exact ⟨rfl, rfl⟩


/-- A sector of which a byte is turned. -/
def turnAt (xs : List Nat) (k y : Nat) : List Nat := xs.set k (xs.getD k 0 ^^^ y)
def St.turned (s : St) (n k y : Nat) : St := ⟨s.read.set n (turnAt (s.read.getD n []) k y), [], s.lets, s.blown⟩
theorem turnAt_length (xs : List Nat) (k y : Nat) : (turnAt xs k y).length = xs.length := List.length_set
theorem xor_lt {x y : Nat} (hx : x < 256) (hy : y < 256) : x ^^^ y < 256 := Nat.xor_lt_two_pow (n := 8) hx hy
theorem turnAt_sec {xs : List Nat} {k y : Nat} (h : Sec xs) (hy : y < 256) : Sec (turnAt xs k y) := by
  refine ⟨by rw [turnAt_length]; exact h.1, fun x hx => ?_⟩
  rcases List.mem_or_eq_of_mem_set hx with h1 | h1
  · exact h.2 x h1
  · rw [h1]
    refine xor_lt ?_ hy
    rw [List.getD_eq_getElem?_getD]
    cases e : xs[k]? with
    | none => simp
    | some z => exact h.2 z (List.mem_of_getElem? e)
theorem St.Ok.turned {s : St} (h : s.Ok) {n k y : Nat} (hn : n < s.sure.length) (hy : y < 256) : (s.turned n k y).Ok := by
  have e : (s.turned n k y).sure.length = s.sure.length := by show (s.read.set n _).length = _; rw [List.length_set, s.read_length]
  refine ⟨by rw [e]; exact h.pos, by rw [e]; exact h.le, fun x hx => ?_, (fun x hx => by cases hx), h.lo, h.hi⟩
  rcases List.mem_or_eq_of_mem_set hx with h1 | h1
  · exact h.read x h1
  · rw [h1]
    refine turnAt_sec ?_ hy
    have hl : n < s.read.length := by rw [s.read_length]; exact hn
    rw [List.getD_eq_getElem?_getD, List.getElem?_eq_getElem hl]
    exact h.read _ (List.getElem_mem hl)

theorem chunk_set1 {α : Type} {m : Nat} {L : List (List α)} (h : ∀ s ∈ L, s.length = m) {k j : Nat} {s : List α} (z : α) (hk : L[k]? = some s) (hj : j < m) : L.flatten.set (k * m + j) z = (L.set k (s.set j z)).flatten := by
  induction L generalizing k with
  | nil => simp at hk
  | cons t L ih =>
    have ht : t.length = m := h t (by simp)
    cases k with
    | zero =>
      simp at hk
      subst hk
      rw [Nat.zero_mul, Nat.zero_add, List.set_cons_zero, List.flatten_cons, List.flatten_cons, List.set_append_left _ _ (by omega)]
    | succ k =>
      have e : (k + 1) * m = m + k * m := by rw [Nat.add_mul]; omega
      rw [List.set_cons_succ, List.flatten_cons, List.flatten_cons, e, List.set_append_right _ _ (by omega), ht, show m + k * m + j - m = k * m + j by omega, ih (fun x hx => h x (by simp [hx])) (by simpa using hk)]

theorem SecAt.setByte {w : World} {g c : Nat} {R : List (List Nat)} (h : SecAt w g c R) (hs : ∀ x ∈ R, Sec x) {n k : Nat} {xs : List Nat} (hx : R[n]? = some xs) (hk : k < 64) (z : Nat) :
    SecAt (w.setCell ⟨g, n * 64 + k, none⟩ (.int .u8 (z : Int))) g c (R.set n (xs.set k z)) := by
  have e := chunk_set1 (secs_len hs) (bv z) (secs_get hx) hk
  have e2 : (bvs xs).set k (bv z) = bvs (xs.set k z) := by unfold bvs; rw [List.map_set]
  rw [e2, secs_set] at e
  have hl := h.1
  rcases h.2 with ⟨e1, _⟩ | ⟨g', cap, cur, e1, hb, hg, hc, hm, hsz, ht⟩
  · cases e1
  · cases e1
    unfold SecAt
    rw [List.length_set]
    refine ⟨by rw [← e, List.length_set]; exact hl, .inr ⟨_, c, cur.setIfInBounds (n * 64 + k) (bv z), rfl, hb, heap_setCell_same w _ _ _ _ (bv z) hg, hc, hm, by rw [Array.size_setIfInBounds]; exact hsz, ?_⟩⟩
    rw [Array.toList_setIfInBounds, List.take_set, ht]
    exact e

theorem SecAt.cell {w : World} {g c : Nat} {R : List (List Nat)} (h : SecAt w g c R) (hs : ∀ x ∈ R, Sec x) {n k : Nat} {xs : List Nat} (hx : R[n]? = some xs) (hk : k < 64) : w.cell? ⟨g, n * 64 + k, none⟩ = some (.int .u8 ((xs.getD k 0 : Nat) : Int)) := by
  have hl := (hs xs (List.mem_of_getElem? hx)).1
  refine h.range hs hx k _ ?_
  rw [bvs_get, List.getD_eq_getElem?_getD, List.getElem?_eq_getElem (by omega)]
  rfl
theorem SecAt.free {w : World} {g c : Nat} {R : List (List Nat)} (h : SecAt w g c R) (i : Nat) : w.frozen? ⟨g, i, none⟩ = false := by
  obtain ⟨cur, hc⟩ := h.type
  exact frozen_of_row w g i _ _ hc

set_option maxRecDepth 100000 in
set_option maxHeartbeats 1000000 in
theorem turn_any {w : World} {g : Nat} {F : Nat → Prop} {s : St} {n k y : Nat} (hn : n < s.sure.length) (hk : k < 64) (hy : y < 256) (hl : s.blown = false) (h : Disk w g F s) :
    Calls Tryz.prog 18 #[.pointer (some ⟨g, 0, none⟩), .int .i64 (n : Int), .int .i64 (k : Int), .int .u8 (y : Int)] w fun e w' => e = .returned (.int .i64 0) ∧ Acted w g F (s.turned n k y) w' := by
  have hd := isThere_yes h
  have hh := has_any (n : Int) h
  have e1 : decide ((0 : Int) ≤ (n : Int) ∧ (n : Int) < (s.sure.length : Int)) = true := by simp; omega
  rw [e1] at hh
  obtain ⟨ok, ⟨a, b, ca, cb, v, h, hf⟩, hF⟩ := h
  have C := settle_at ok h
  have c4 := h.c4
  rw [hl] at c4
  have H0 := Lib.hid (And.intro ok (And.intro h (And.intro hf (And.intro hF hl))))
  have k1 : decide ((k : Int) < 0) = false := by simp
  have k2 : decide (64 ≤ (k : Int)) = false := by simp; omega
  have k3 : (k : Int) < 64 := by omega
  clear ok h hf hF hl e1
  go_enter Tryz.func18, Tryz.ntmps18
  go_wp2_with fail
  refine hd.mono ?_
  rintro e w1 ⟨rfl, rfl⟩
  go_wp2_with fail
  refine hh.mono ?_
  rintro e w1 ⟨rfl, rfl⟩
  go_wp2_with fail
  refine C.mono ?_
  rintro e w1 ⟨rfl, h1, hb1⟩
  clear C c4 hd hh
  obtain ⟨xs, hxs⟩ : ∃ xs, s.read[n]? = some xs := ⟨_, List.getElem?_eq_getElem (by rw [s.read_length]; exact hn)⟩
  have hxd : s.read.getD n [] = xs := by rw [List.getD_eq_getElem?_getD, hxs]; rfl
  have hsx := H0.out.1.read xs (List.mem_of_getElem? hxs)
  have c1 := h1.c1
  rw [show s.settled.sure.length = s.sure.length from s.read_length] at c1
  have hrd1 : SecAt w1 b cb s.read := h1.rd
  have hsu1 : SecAt w1 a ca s.read := h1.sure
  have cx := hrd1.cell H0.out.1.read hxs hk
  have fx := hrd1.free (n * 64 + k)
  obtain ⟨x, hx⟩ : ∃ x, xs.getD k 0 = x := ⟨_, rfl⟩
  rw [hx] at cx
  have hxb : x < 256 := by
    rw [← hx, List.getD_eq_getElem?_getD, List.getElem?_eq_getElem (by rw [hsx.1]; exact hk)]
    exact hsx.2 _ (List.getElem_mem _)
  have q1 := u8_xor_nat x y hxb hy
  have hni : (n : Int) < (s.sure.length : Int) := by omega
  have H1 := Lib.hid (And.intro h1 (And.intro hb1 (And.intro hrd1 (And.intro hsu1 (And.intro hxs (And.intro hxd (And.intro hsx hx)))))))
  clear h1 hb1 hrd1 hsu1 hxs hxd hsx hx hxb
  go_wp2
  go_still_tail 13, (by kernel_rfl)
  have hW := (H1.out.2.2.1.block (w' := w1.drew) rfl).setByte H0.out.1.read H1.out.2.2.2.2.1 hk (x ^^^ y)
  have hG := setCell_grown w1.drew b (n * 64 + k) (.int .u8 ((x ^^^ y : Nat) : Int))
  have D1 := H1.out.1
  have gl := D1.lt
  obtain ⟨W2, hW2⟩ : ∃ W2, w1.drew.setCell ⟨b, n * 64 + k, none⟩ (.int .u8 ((x ^^^ y : Nat) : Int)) = W2 := ⟨_, rfl⟩
  rw [hW2] at hW hG
  have hxk : xs.set k (x ^^^ y) = turnAt xs k y := by rw [turnAt, H1.out.2.2.2.2.2.2.2]
  rw [hxk] at hW
  have hsz2 : W2.heap.size = w1.heap.size := by rw [← hW2]; simp [World.setCell]
  have hg2 : W2.heap[g]? = w1.heap[g]? := hG.block g gl (fun e => D1.gb (by injection e))
  have ha2 : W2.heap[a]? = w1.heap[a]? := hG.block a D1.sure.lt (fun e => D1.ne (by injection e))
  have c0 : W2.cell? ⟨g, 0, none⟩ = some (.slice (some ⟨a, 0, none⟩) s.sure.length ca) := by
    have := D1.c0
    rw [show s.settled.sure.length = s.sure.length from s.read_length] at this
    exact (World.cell?_of_block hg2).trans this
  have c1' : W2.cell? ⟨g, 1, none⟩ = some (.slice (some ⟨b, 0, none⟩) s.sure.length cb) := (World.cell?_of_block hg2).trans c1
  have hs2 : ∀ z ∈ s.read.set n (turnAt xs k y), Sec z := fun z hz => by
    rcases List.mem_or_eq_of_mem_set hz with h1 | h1
    · exact H0.out.1.read z h1
    · rw [h1]; exact turnAt_sec H1.out.2.2.2.2.2.2.1 hy
  have hget : (s.read.set n (turnAt xs k y))[n]? = some (turnAt xs k y) := by rw [List.getElem?_set_self (by rw [s.read_length]; exact hn)]
  have rb := hW.range hs2 hget
  have tl : (turnAt xs k y).length = 64 := by rw [turnAt_length]; exact H1.out.2.2.2.2.2.2.1.1
  have hsa2 : SecAt W2 a ca s.read := H1.out.2.2.2.1.block ha2
  have ta := hsa2.there (k := n) (by rw [s.read_length]; exact hn)
  have HA := Lib.hid (And.intro hW (And.intro hG (And.intro hsz2 (And.intro hg2 (And.intro hs2 (And.intro rb (And.intro tl (And.intro hsa2 ta))))))))
  clear hW hG hsz2 hg2 ha2 hs2 hget rb tl hsa2 ta hxk D1 gl
  change wpList _ _ _ _ _ w1.drew
  go_wp2
  clear hW2 c1 fx cx q1
  refine wp_region_still_tail 13 (by kernel_rfl) (by kernel_rfl) ?_
  simp only [List.take_succ_cons, List.take_zero, List.drop_succ_cons, List.drop_zero]
  iterate 11 still_step
  refine wpStill_step (fun K hK => ?_)
  refine still_load_mid rfl 137 (.tmp 56) rfl b (n * 64) rfl (bvs (turnAt xs k y)) _ (fun j u hu => HA.out.2.2.2.2.2.1 j u hu) Tryz.underlying137 rfl (by rw [bvs_length, HA.out.2.2.2.2.2.2.1]; exact sizeSector) (hK _ ?_)
  clear hK K
  still_step
  refine wpStill_nil ?_
  change wpList _ _ _ _ _ W2.drew
  refine wpList_store_mid rfl 137 (.tmp 58) (.tmp 57) rfl a (n * 64) (bvs (turnAt xs k y)).toArray rfl rfl (by rw [List.size_toArray, bvs_length, HA.out.2.2.2.2.2.2.1]; exact HA.out.2.2.2.2.2.2.2.2) (by rw [List.size_toArray, bvs_length, HA.out.2.2.2.2.2.2.1]; exact sizeSector) (all_oneCell_toArray (bvs_oneCell _)) ?_
  change wpList _ _ _ _ _ (W2.drew.setCells a (n * 64) (bvs (turnAt xs k y)))
  have hA3 := SecAt.set (w := W2.drew) (HA.out.2.2.2.2.2.2.2.1.block rfl) H0.out.1.read (k := n) (by rw [s.read_length]; exact hn) HA.out.2.2.2.2.2.2.1
  have hG3 := setCells_grown a (bvs (turnAt xs k y)) W2.drew (n * 64)
  obtain ⟨W3, hW3⟩ : ∃ W3, W2.drew.setCells a (n * 64) (bvs (turnAt xs k y)) = W3 := ⟨_, rfl⟩
  rw [hW3] at hA3 hG3 ⊢
  have HB := Lib.hid (And.intro hA3 hG3)
  clear hA3 hG3 hW3 c0 c1'
  go_wp2
  go_ret
  obtain ⟨ok, h, hf, hF, hl⟩ := H0.out
  obtain ⟨D1, hb1, _, _, hxs, hxd, hsx, hx⟩ := H1.out
  obtain ⟨hW, hG, hsz2, hg2, hs2, rb, tl, hsa2, ta⟩ := HA.out
  obtain ⟨hA3, hG3⟩ := HB.out
  have es : s.turned n k y = ⟨s.read.set n (turnAt xs k y), [], s.lets, s.blown⟩ := by unfold St.turned; rw [hxd]
  refine ⟨rfl, F, ⟨ok.turned hn hy, ⟨a, b, ca, cb, .slice none 0 0, ?_, fun z hz => ?_⟩, fun z hz => ?_⟩, ?_, fun z hz => .inl hz⟩
  · rw [es]
    refine ⟨?_, hA3, ?_, ⟨rfl, .inl ⟨rfl, rfl⟩⟩, h.ne⟩
    · have e1 : W3.heap[g]? = W2.heap[g]? := hG3.block g (by show g < W2.heap.size; rw [hsz2]; exact D1.lt) (fun e => D1.ga (by injection e))
      have := e1.trans (hg2.trans D1.head)
      rw [show (List.set s.read n (turnAt xs k y)).length = s.settled.sure.length from List.length_set]
      exact this
    · refine hW.block (hG3.block b (by show b < W2.heap.size; rw [hsz2]; exact D1.rd.lt) (fun e => D1.ne (by injection e with e; exact e.symm)))
  · rcases hz with hz | hz | hz | hz
    · exact hf z (.inl hz)
    · exact hf z (.inr (.inl hz))
    · exact hf z (.inr (.inr (.inl hz)))
    · cases hz
  · have h1 := hF z hz
    have h2 := hb1.size
    have h3 := hG3.size
    have h4 : W2.drew.heap.size = W2.heap.size := rfl
    omega
  · have b1 : But F w w1 := hb1.mono (fun z _ hz => by
      rcases hz with rfl | rfl
      · exact hf _ (.inl rfl)
      · exact hf _ (.inr (.inl rfl)))
    have b2 : But F w W2 := b1.drew.grown hG (fun z e _ => by injection e with e; rw [← e]; exact hf _ (.inr (.inr (.inl rfl))))
    exact b2.drew.grown hG3 (fun z e _ => by injection e with e; rw [← e]; exact hf _ (.inr (.inl rfl)))

set_option maxRecDepth 100000 in
set_option maxHeartbeats 1000000 in
theorem turn_blown {w : World} {g : Nat} {F : Nat → Prop} {s : St} {n k y : Nat} (hn : n < s.sure.length) (hk : k < 64) (hl : s.blown = true) (h : Disk w g F s) :
    Calls Tryz.prog 18 #[.pointer (some ⟨g, 0, none⟩), .int .i64 (n : Int), .int .i64 (k : Int), .int .u8 (y : Int)] w fun e w' => e = .returned (.int .i64 9) ∧ w = w' := by
  have hd := isThere_yes h
  have hh := has_any (n : Int) h
  have e1 : decide ((0 : Int) ≤ (n : Int) ∧ (n : Int) < (s.sure.length : Int)) = true := by simp; omega
  rw [e1] at hh
  obtain ⟨ok, ⟨a, b, ca, cb, v, h, hf⟩, hF⟩ := h
  have c4 := h.c4
  rw [hl] at c4
  have k1 : decide ((k : Int) < 0) = false := by simp
  have k2 : decide (64 ≤ (k : Int)) = false := by simp; omega
  have k3 : (k : Int) < 64 := by omega
  clear ok h hf hF hl e1
  go_enter Tryz.func18, Tryz.ntmps18
  go_wp2_with fail
  refine hd.mono ?_
  rintro e w1 ⟨rfl, rfl⟩
  go_wp2_with fail
  refine hh.mono ?_
  rintro e w1 ⟨rfl, rfl⟩
  go_wp2
  go_ret
  exact ⟨rfl, rfl⟩

end Go.Proofs.YthbgcijkpincfaaGreatDoor

/-
  disks: Blown.
-/
namespace Go.Proofs.YthbgcijkpincfaaGreatDoor
open Go.RowKit

set_option maxRecDepth 100000 in
set_option maxHeartbeats 1000000 in
theorem blown_no (p : Option Addr) (w : World) (h : NoDisk w p) :
    Calls Tryz.prog 99 #[.pointer p] w fun e w' => e = .returned (.bool false) ∧ w = w' := by
  go_enter Tryz.func99, Tryz.ntmps99
  go_wp2_with fail
  refine (isThere_no p w h).mono ?_
  rintro e w1 ⟨rfl, rfl⟩
  go_wp2
  go_ret
  exact ⟨rfl, rfl⟩

set_option maxRecDepth 100000 in
set_option maxHeartbeats 1000000 in
theorem blown_any {w : World} {g : Nat} {F : Nat → Prop} {s : St} (h : Disk w g F s) :
    Calls Tryz.prog 99 #[.pointer (some ⟨g, 0, none⟩)] w fun e w' => e = .returned (.bool s.blown) ∧ w = w' := by
  have hd := isThere_yes h
  obtain ⟨ok, ⟨a, b, ca, cb, v, h, hf⟩, hl⟩ := h
  have c4 := h.c4
  clear h hf hl ok
  go_enter Tryz.func99, Tryz.ntmps99
  go_wp2_with fail
  refine hd.mono ?_
  rintro e w1 ⟨rfl, rfl⟩
  go_wp2
  go_ret
  exact ⟨rfl, rfl⟩

end Go.Proofs.YthbgcijkpincfaaGreatDoor

/-
  A slice that reads as bools.
-/
namespace Go.Proofs.YthbgcijkpincfaaGreatDoor
open Go.RowKit

/-- '.slice A n c' reads as these bools. -/
structure InB (w : World) (A : Option Addr) (n : Nat) (ks : List Bool) : Prop where
  len : ks.length = n
  rd : ∀ j x, ks[j]? = some x → ∃ ad, A = some ad ∧ w.cell? (ad.add j) = some (.bool x)
theorem InB.below {w w' : World} {A : Option Addr} {n : Nat} {ks : List Bool} (h : InB w A n ks) (hb : Below w.heap.size w w') : InB w' A n ks := ⟨h.len, fun j x hx => by
  obtain ⟨ad, e, hc⟩ := h.rd j x hx
  exact ⟨ad, e, (hb.cell (World.block_lt_of_cell? w _ hc)).trans hc⟩⟩
theorem InB.none_ (w : World) (A : Option Addr) : InB w A 0 [] := ⟨rfl, fun j x h => by simp at h⟩


end Go.Proofs.YthbgcijkpincfaaGreatDoor

/-
  disks: Fail.
-/
namespace Go.Proofs.YthbgcijkpincfaaGreatDoor
open Go.RowKit

/-- The writes that are kept, of the first j. -/
def pick (ws : List (Nat × List Nat)) (ks : List Bool) (j : Nat) : List (Nat × List Nat) := (((ws.zip ks).take j).filter (·.2)).map (·.1)
theorem pick_step {ws : List (Nat × List Nat)} {ks : List Bool} {j : Nat} {x : Nat × List Nat} {b : Bool} (hx : ws[j]? = some x) (hb : ks[j]? = some b) : pick ws ks (j + 1) = pick ws ks j ++ (if b then [x] else []) := by
  have hz : (ws.zip ks)[j]? = some (x, b) := by
    rw [List.getElem?_zip_eq_some]
    exact ⟨hx, hb⟩
  rw [pick, pick, List.take_add_one, hz]
  cases b <;> simp
/-- Those that are kept. -/
def kept (ws : List (Nat × List Nat)) (ks : List Bool) : List (Nat × List Nat) := pick ws ks (min ws.length ks.length)
theorem pick_mem {ws : List (Nat × List Nat)} {ks : List Bool} {j : Nat} {x : Nat × List Nat} (h : x ∈ pick ws ks j) : x ∈ ws := by
  obtain ⟨y, hy, rfl⟩ := List.mem_map.1 h
  have h2 := List.mem_of_mem_take (List.mem_filter.1 hy).1
  exact (List.of_mem_zip h2).1

set_option maxRecDepth 100000 in
set_option maxHeartbeats 2000000 in
theorem fail_any {w : World} {g : Nat} {F : Nat → Prop} {s : St} (A : Option Addr) (n c : Nat) (ks : List Bool) (hk : InB w A n ks) (h : Disk w g F s) :
    Calls Tryz.prog 16 #[.pointer (some ⟨g, 0, none⟩), .slice A n c] w fun e w' => ∃ g', e = .returned (.tuple #[.pointer (some ⟨g', 0, none⟩), .int .i64 0]) ∧ Made w (fresh (settle s.sure (kept s.waits ks))) g' w' := by
  have hd := isThere_yes h
  obtain ⟨ok, ⟨a, b, ca, cb, v, h, hf⟩, hF⟩ := h
  obtain ⟨Av, cv, rfl, hnv, hAv, hcm⟩ := row_form h.row
  have C := clone_any h.sure ok.sec ok.pos ok.le
  have c0 := h.c0
  obtain ⟨m, hm⟩ : ∃ m, s.waits.length = m := ⟨_, rfl⟩
  rw [hm] at h hnv hAv
  have c2 := h.c2
  have H := Lib.hid (And.intro ok (And.intro h (And.intro hk (And.intro hAv (And.intro hm (And.intro hnv hcm))))))
  clear ok h hf hF hk hAv hm
  go_enter Tryz.func16, Tryz.ntmps16
  go_wp2_with fail
  refine hd.mono ?_
  rintro e w1 ⟨rfl, rfl⟩
  go_wp2_with fail
  refine C.mono ?_
  rintro e w1 ⟨y, cy, rfl, hR, hy, hb1⟩
  have c2' : w1.cell? ⟨g, 2, none⟩ = some (.slice Av m cv) := (hb1.cell H.out.2.1.lt).trans c2
  have H1 := Lib.hid (And.intro hR (And.intro hy hb1))
  clear hd C c0 c2 hR hy hb1
  obtain ⟨q, hq⟩ : ∃ q, min m n = q := ⟨_, rfl⟩
  have qm : q ≤ m := by omega
  have qn : q ≤ n := by omega
  have qc : q ≤ cv := by omega
  have hif : (if n < m then (n : Int) else (m : Int)) = (q : Int) := by split <;> omega
  have hqi : (q : Int) ≤ (cv : Int) := by omega
  go_wp2
  refine wp_region_still_lit (by kernel_rfl) (by kernel_rfl) ?_
  repeat still_step
  refine wpStill_nil ?_
  change Exit.then _ _ _ _ w1.drew
  have HQ := Lib.hid (And.intro hq (And.intro qm (And.intro qn qc)))
  have q63 : q ≤ 9223372036854775807 := by omega
  clear hif hqi c2' hq qm qc hnv hcm
  go_wp2
  go_loopw [31] (fun i wr => ∃ j : Nat, j ≤ q ∧ i = .int .i64 (j : Int) ∧ Hid (SecAt wr y cy (settle s.sure (pick s.waits ks j)) ∧ But (fun z => z = y) w1 wr)) (fun i _ => q - (intOf i).toNat)
  case atStart => exact ⟨0, Nat.zero_le _, rfl, Lib.hid ⟨by simpa [pick, settle] using H1.out.1.block (w' := w1.drew) rfl, (But.refl _ w1).drew⟩⟩
  case round =>
    obtain ⟨j, hj, rfl, hrel⟩ := hrel
    by_cases hlt : j < q
    · obtain ⟨gv, rfl⟩ := H.out.2.2.2.1 (by have := HQ.out.2.1; omega)
      obtain ⟨x, hx⟩ : ∃ x, s.waits[j]? = some x := ⟨_, List.getElem?_eq_getElem (by rw [H.out.2.2.2.2.1]; have := HQ.out.2.1; omega)⟩
      obtain ⟨kb, hkb⟩ : ∃ kb, ks[j]? = some kb := ⟨_, List.getElem?_eq_getElem (by rw [H.out.2.2.1.len]; omega)⟩
      obtain ⟨ad, rfl, hkc0⟩ := H.out.2.2.1.rd j kb hkb
      have hb1 := H1.out.2.2
      have hyw := H1.out.2.1
      have hbe : Below w.heap.size w wr := hb1.trans (hrel.out.2.below hb1.size (fun z hz => by rw [hz]; exact hyw))
      have hkc : wr.cell? (ad.add j) = some (.bool kb) := (hbe.cell (World.block_lt_of_cell? w _ hkc0)).trans hkc0
      have hws := H.out.1.wsec x (List.mem_of_getElem? hx)
      have hlw : gv < w.heap.size := own_lt H.out.2.1.row rfl
      have row : wr.ownsRow 0 141 65 (.slice (some ⟨gv, 0, none⟩) m cv) m (wcells s.waits).flatten := by
        have hr := H.out.2.1.row
        rw [H.out.2.2.2.2.1] at hr
        exact own_block hr (fun z hz => by cases hz; exact hbe.block gv hlw)
      have hwc := wcells_len (fun y hy => (H.out.1.wsec y hy).2)
      have hr := own_range row hwc (by rw [wcells, List.length_map]; exact H.out.2.2.2.2.1) (wcells_get hx)
      have hwl : (wcell x).length = 65 := hwc _ (List.mem_map.2 ⟨x, List.mem_of_getElem? hx, rfl⟩)
      have hk : x.1 < s.sure.length := hws.1
      have hki : (x.1 : Int) < (s.sure.length : Int) := by omega
      have hji : (j : Int) < (q : Int) := by omega
      have hjn : (j : Int) < (n : Int) := by omega
      have z1 := zeroWrite_run wr
      have hsA : (Tryz.prog.info? 141).map (·.size) = some (wcell x).toArray.size := by rw [List.size_toArray, hwl]; exact sizeWrite
      have hsB : zeroWrite.toArray.size = (wcell x).toArray.size := by rw [List.size_toArray, List.size_toArray, hwl]; rfl
      have HX := Lib.hid (And.intro hx (And.intro hws (And.intro hr (And.intro hwl (And.intro row (And.intro hsA (And.intro hsB (And.intro hkc (And.intro hkb hbe)))))))))
      clear hx hws hr hwl row hwc hsA hsB hkc hkb hkc0 hbe hb1 hyw
      go_upto_region 7 with (first
        | (with_reducible refine wpList_load_mid rfl 141 _ rfl gv (j * 65) rfl (wcell x) _ HX.out.2.2.1 Tryz.underlying141 rfl (by rw [HX.out.2.2.2.1]; exact sizeWrite) ?_)
        | (with_reducible refine wpList_store_fresh rfl wr 141 _ (wcell x).toArray _ _ rfl rfl rfl HX.out.2.2.2.2.2.1 HX.out.2.2.2.2.2.2.1 (all_oneCell_toArray (wcell_one x)) ?_))
      obtain ⟨W, hW⟩ : ∃ W, wr.alloc (Obj.cells (wcell x).toArray 141) = W := ⟨_, rfl⟩
      obtain ⟨B, hB⟩ : ∃ B, wr.heap.size = B := ⟨_, rfl⟩
      have hbW : Below wr.heap.size wr W := hW ▸ below_alloc wr _
      have hHW : W.heap[B]? = some (.cells (wcell x).toArray 141 (0, 0)) := by rw [← hW, ← hB]; exact World.alloc_heap_new wr _
      have cK : W.cell? (ad.add j) = some (.bool kb) := (hbW.cell (World.block_lt_of_cell? wr _ HX.out.2.2.2.2.2.2.2.1)).trans HX.out.2.2.2.2.2.2.2.1
      have cB : W.cell? ⟨B, 0, none⟩ = some (.int .i64 (x.1 : Int)) := by rw [cell_of_row _ B 0 _ _ (0, 0) hHW]; rfl
      have rB : W.rangeAt B 1 (bvs x.2) := fun i u hu => by
        rw [cell_of_row _ B (1 + i) _ _ (0, 0) hHW, Nat.add_comm 1 i, List.getElem?_toArray, wcell, List.getElem?_cons_succ]
        exact hu
      have hsec := hrel.out.1.below hbW
      have hlen : (settle s.sure (pick s.waits ks j)).length = s.sure.length := settle_length _ _
      have hstep := pick_step HX.out.1 HX.out.2.2.2.2.2.2.2.2.1
      have hsx : (bvs x.2).length = 64 := by rw [bvs_length, HX.out.2.1.2.1]
      have htA := hsec.there (k := x.1) (by rw [hlen]; exact hk)
      have hsC : (Tryz.prog.info? 137).map (·.size) = some (bvs x.2).length := by rw [hsx]; exact sizeSector
      have hsD : (Tryz.prog.info? 137).map (·.size) = some (bvs x.2).toArray.size := by rw [List.size_toArray]; exact hsC
      have htD : W.there y (x.1 * 64) (bvs x.2).toArray.size := by rw [List.size_toArray, hsx]; exact htA
      have HW := Lib.hid (And.intro rB (And.intro hbW (And.intro hsec (And.intro hlen (And.intro hstep (And.intro hsx (And.intro htD (And.intro hsC hsD))))))))
      rw [hB, hW]
      clear z1 hW rB hbW hHW hB hsec hlen hstep hsx htA hsC hsD htD
      cases kb
      · go_wp2
        go_roundw
        case rel =>
          refine ⟨j + 1, by omega, by go_num, Lib.hid ⟨?_, hrel.out.2.trans (But.of_below HW.out.2.1)⟩⟩
          rw [HW.out.2.2.2.2.1]
          simpa using HW.out.2.2.1
        case measure => simp [intOf]; omega
      · go_wp2_with (first
          | (with_reducible refine wpList_load_mid rfl 137 _ rfl B 1 rfl (bvs x.2) _ HW.out.1 Tryz.underlying137 rfl HW.out.2.2.2.2.2.2.2.1 ?_)
          | (with_reducible refine wpList_store_mid rfl 137 _ _ rfl y (x.1 * 64) (bvs x.2).toArray rfl rfl HW.out.2.2.2.2.2.2.1 HW.out.2.2.2.2.2.2.2.2 (all_oneCell_toArray (bvs_oneCell _)) ?_))
        have hnew := SecAt.set HW.out.2.2.1 (settle_sec H.out.1.sec (fun z hz => (H.out.1.wsec z (pick_mem hz)).2)) (k := x.1) (by rw [HW.out.2.2.2.1]; exact hk) HX.out.2.1.2.1
        have hbut := (hrel.out.2.trans (But.of_below HW.out.2.1)).grown (setCells_grown y (bvs x.2) W (x.1 * 64)) (fun z e _ => by injection e with e; exact e.symm)
        go_roundw
        case rel =>
          refine ⟨j + 1, by omega, by go_num, Lib.hid ⟨?_, hbut⟩⟩
          rw [HW.out.2.2.2.2.1]
          simpa [settle_snoc] using hnew
        case measure => simp [intOf]; omega
    · obtain rfl : j = q := by omega
      have hji : decide ((j : Int) < (j : Int)) = false := by simp
      have hs := hrel.out.1
      have hlen : (settle s.sure (pick s.waits ks j)).length = s.sure.length := settle_length _ _
      have hbe : Below w.heap.size w wr := H1.out.2.2.trans (hrel.out.2.below H1.out.2.2.size (fun z hz => by rw [hz]; exact H1.out.2.1))
      have C := diskOf_any hbe hs H1.out.2.1 (settle_sec H.out.1.sec (fun z hz => (H.out.1.wsec z (pick_mem hz)).2)) (by rw [hlen]; exact H.out.1.pos) (by rw [hlen]; exact H.out.1.le)
      rw [hlen] at C
      have hkq : pick s.waits ks j = kept s.waits ks := by rw [kept, H.out.2.2.2.2.1, H.out.2.2.1.len, HQ.out.1]
      rw [hkq] at C
      have HC := Lib.hid C
      clear C hs hlen hbe hkq
      go_wp2_with fail
      refine HC.out.mono ?_
      rintro e w2 ⟨g', rfl, hM⟩
      go_wp2
      go_ret2
      exact ⟨g', rfl, hM⟩

end Go.Proofs.YthbgcijkpincfaaGreatDoor

/-
  The document's own disk (almonerref05): what it is, and where it lies; its small calls.
-/
namespace Go.Proofs.YthbgcijkpincfaaGreatDoor
open Go.RowKit

/-- A slice that holds the bytes of a sector, in a block of F. -/
def RSec (w : World) (F : Nat → Prop) (v : Value) (xs : List Nat) : Prop :=
  ∃ B c, v = .slice (some ⟨B, 0, none⟩) 64 c ∧ In w (some ⟨B, 0, none⟩) 64 xs ∧ 64 ≤ c ∧ F B ∧ ∃ cur, w.heap[B]? = some (.cells cur 5 (0, 0))
theorem RSec.block {w w' : World} {F : Nat → Prop} {v : Value} {xs : List Nat} (h : RSec w F v xs) (hb : ∀ b cur, F b → w.heap[b]? = some (.cells cur 5 (0, 0)) → w'.heap[b]? = w.heap[b]?) : RSec w' F v xs := by
  obtain ⟨B, c, e, hin, hc, hF, cur, hcur⟩ := h
  have he := hb B cur hF hcur
  refine ⟨B, c, e, ⟨hin.len, fun j x hx => ?_⟩, hc, hF, cur, he.trans hcur⟩
  obtain ⟨ad, ea, hcell⟩ := hin.rd j x hx
  cases ea
  refine ⟨_, rfl, (World.cell?_of_block ?_).trans hcell⟩
  rw [block_add]
  exact he
theorem RSec.mono {w : World} {F F' : Nat → Prop} {v : Value} {xs : List Nat} (h : RSec w F v xs) (hF : ∀ x, F x → F' x) : RSec w F' v xs := by
  obtain ⟨B, c, e, hin, hc, hb, hcur⟩ := h
  exact ⟨B, c, e, hin, hc, hF B hb, hcur⟩

/-- Rows of slices that hold the sectors R; rows of what waits. -/
def RSecs (w : World) (F : Nat → Prop) (sv : Value) (R : List (List Nat)) : Prop :=
  ∃ vals : List Value, w.ownsRow 0 50 1 sv R.length vals ∧ ∀ (i : Nat) (v : Value) (xs : List Nat), vals[i]? = some v → R[i]? = some xs → RSec w F v xs
def RWaits (w : World) (F : Nat → Prop) (lv : Value) (ws : List (Nat × List Nat)) : Prop :=
  ∃ E : List (List Value), w.ownsRow 0 143 2 lv ws.length E.flatten ∧ E.length = ws.length ∧ ∀ (i : Nat) (x : Nat × List Nat) (e : List Value), ws[i]? = some x → E[i]? = some e → ∃ v, e = [.int .i64 (x.1 : Int), v] ∧ RSec w F v x.2

/-- Block g is the document's disk. -/
structure RAt (w : World) (F : Nat → Prop) (g : Nat) (sv lv : Value) (s : St) : Prop where
  head : w.heap[g]? = some (.cells #[sv, lv, .int .i64 s.lets, .bool s.blown] 117 (0, 0))
  sure : RSecs w F sv s.sure
  l : RWaits w F lv s.waits
  fg : F g
  fs : ∀ b, sv.ownBlock = some b → F b
  fl : ∀ b, lv.ownBlock = some b → F b

/-- A blown fuse lets none be. -/
def Blows (s : St) : Prop := s.blown = true → s.lets = 0
def RDisk (w : World) (g : Nat) (F : Nat → Prop) (s : St) : Prop := s.Ok ∧ Blows s ∧ (∃ sv lv, RAt w F g sv lv s) ∧ ∀ x, F x → x < w.heap.size
def RActed (w : World) (g : Nat) (F : Nat → Prop) (s' : St) (w' : World) : Prop := ∃ F', RDisk w' g F' s' ∧ But F w w' ∧ ∀ x, F' x → F x ∨ w.heap.size ≤ x

theorem rt1 : 117 ≠ 50 := by decide
theorem rt2 : 117 ≠ 143 := by decide
theorem rt3 : 117 ≠ 5 := by decide
theorem rt4 : 50 ≠ 143 := by decide
theorem rt5 : 50 ≠ 5 := by decide
theorem rt6 : 143 ≠ 5 := by decide

section
variable {w w' : World} {F : Nat → Prop} {g : Nat} {sv lv : Value} {s s' : St}
theorem RSecs.block {R : List (List Nat)} (h : RSecs w F sv R) (hv : ∀ b, sv.ownBlock = some b → w'.heap[b]? = w.heap[b]?) (hb : ∀ b cur, F b → w.heap[b]? = some (.cells cur 5 (0, 0)) → w'.heap[b]? = w.heap[b]?) : RSecs w' F sv R := by
  obtain ⟨vals, h1, h2⟩ := h
  exact ⟨vals, own_block h1 hv, fun i v xs hi hx => (h2 i v xs hi hx).block hb⟩
theorem RWaits.block {ws : List (Nat × List Nat)} (h : RWaits w F lv ws) (hv : ∀ b, lv.ownBlock = some b → w'.heap[b]? = w.heap[b]?) (hb : ∀ b cur, F b → w.heap[b]? = some (.cells cur 5 (0, 0)) → w'.heap[b]? = w.heap[b]?) : RWaits w' F lv ws := by
  obtain ⟨E, h1, h2, h3⟩ := h
  refine ⟨E, own_block h1 hv, h2, fun i x e hi he => ?_⟩
  obtain ⟨v, e1, h4⟩ := h3 i x e hi he
  exact ⟨v, e1, h4.block hb⟩
theorem RSecs.mono {F' : Nat → Prop} {R : List (List Nat)} (h : RSecs w F sv R) (hF : ∀ x, F x → F' x) : RSecs w F' sv R := by
  obtain ⟨vals, h1, h2⟩ := h
  exact ⟨vals, h1, fun i v xs hi hx => (h2 i v xs hi hx).mono hF⟩
theorem RWaits.mono {F' : Nat → Prop} {ws : List (Nat × List Nat)} (h : RWaits w F lv ws) (hF : ∀ x, F x → F' x) : RWaits w F' lv ws := by
  obtain ⟨E, h1, h2, h3⟩ := h
  refine ⟨E, h1, h2, fun i x e hi he => ?_⟩
  obtain ⟨v, e1, h4⟩ := h3 i x e hi he
  exact ⟨v, e1, h4.mono hF⟩
theorem RAt.c0 (h : RAt w F g sv lv s) : w.cell? ⟨g, 0, none⟩ = some sv := by rw [cell_of_row _ g 0 _ _ (0, 0) h.head]; rfl
theorem RAt.c1 (h : RAt w F g sv lv s) : w.cell? ⟨g, 1, none⟩ = some lv := by rw [cell_of_row _ g 1 _ _ (0, 0) h.head]; rfl
theorem RAt.c2 (h : RAt w F g sv lv s) : w.cell? ⟨g, 2, none⟩ = some (.int .i64 s.lets) := by rw [cell_of_row _ g 2 _ _ (0, 0) h.head]; rfl
theorem RAt.c3 (h : RAt w F g sv lv s) : w.cell? ⟨g, 3, none⟩ = some (.bool s.blown) := by rw [cell_of_row _ g 3 _ _ (0, 0) h.head]; rfl
theorem RAt.fz (h : RAt w F g sv lv s) (i : Nat) : w.frozen? ⟨g, i, none⟩ = false := frozen_of_row _ g i _ _ h.head
theorem RAt.gs (h : RAt w F g sv lv s) {x : Nat} (hx : sv.ownBlock = some x) : g ≠ x := by obtain ⟨vals, h1, _⟩ := h.sure; obtain ⟨cur, hc⟩ := own_type h1 hx; exact block_ne h.head hc rt1
theorem RAt.gl (h : RAt w F g sv lv s) {x : Nat} (hx : lv.ownBlock = some x) : g ≠ x := by obtain ⟨E, h1, _⟩ := h.l; obtain ⟨cur, hc⟩ := own_type h1 hx; exact block_ne h.head hc rt2
theorem RDisk.but {S : Nat → Prop} (h : RDisk w g F s) (hb : But S w w') (hd : ∀ x, F x → ¬ S x) : RDisk w' g F s := by
  obtain ⟨ok, bl, ⟨sv, lv, h⟩, hl⟩ := h
  have hk : ∀ b, F b → w'.heap[b]? = w.heap[b]? := fun b hF => hb.block b (hl b hF) (hd b hF)
  exact ⟨ok, bl, ⟨sv, lv, (hk g h.fg).trans h.head, h.sure.block (fun b e => hk b (h.fs b e)) (fun b _ hF _ => hk b hF), h.l.block (fun b e => hk b (h.fl b e)) (fun b _ hF _ => hk b hF), h.fg, h.fs, h.fl⟩, fun x hx => Nat.lt_of_lt_of_le (hl x hx) hb.size⟩
theorem RDisk.below (h : RDisk w g F s) (hb : Below w.heap.size w w') : RDisk w' g F s := h.but (S := fun _ => False) (But.of_below hb) (fun _ _ hf => hf)
/-- One cell of the head is written. -/
theorem RAt.headSet (h : RAt w F g sv lv s) {w' : World} (hg : w.grownBy w' (some g)) (hs : s'.sure = s.sure) (hw : s'.waits = s.waits) (hl : ∀ x, F x → x < w.heap.size)
    (hh : w'.heap[g]? = some (.cells #[sv, lv, .int .i64 s'.lets, .bool s'.blown] 117 (0, 0))) : RAt w' F g sv lv s' := by
  have hb : ∀ x, x < w.heap.size → x ≠ g → w'.heap[x]? = w.heap[x]? := fun x hx hne => hg.block x hx (fun e => hne (by injection e))
  have hy : ∀ b cur, F b → w.heap[b]? = some (.cells cur 5 (0, 0)) → w'.heap[b]? = w.heap[b]? := fun b cur hF hc => hb b (hl b hF) (block_ne h.head hc rt3).symm
  refine ⟨hh, ?_, ?_, h.fg, h.fs, h.fl⟩
  · rw [hs]; exact h.sure.block (fun b e => hb b (hl b (h.fs b e)) (h.gs e).symm) hy
  · rw [hw]; exact h.l.block (fun b e => hb b (hl b (h.fl b e)) (h.gl e).symm) hy
theorem RAt.setLets (h : RAt w F g sv lv s) (hl : ∀ x, F x → x < w.heap.size) (z : Int) : RAt (w.setCell ⟨g, 2, none⟩ (.int .i64 z)) F g sv lv { s with lets := z } :=
  h.headSet (setCell_grown w g 2 _) rfl rfl hl (heap_setCell_same w g 2 _ _ (.int .i64 z) h.head)
theorem RAt.setBlown (h : RAt w F g sv lv s) (hl : ∀ x, F x → x < w.heap.size) (z : Bool) : RAt (w.setCell ⟨g, 3, none⟩ (.bool z)) F g sv lv { s with blown := z } :=
  h.headSet (setCell_grown w g 3 _) rfl rfl hl (heap_setCell_same w g 3 _ _ (.bool z) h.head)
theorem RAt.lens (h : RAt w F g sv lv s) : (∃ A c, sv = .slice A s.sure.length c) ∧ ∃ A c, lv = .slice A s.waits.length c := by
  obtain ⟨vals, h1, _⟩ := h.sure
  obtain ⟨E, h2, _⟩ := h.l
  obtain ⟨A, c, e, _⟩ := row_form h1
  obtain ⟨A2, c2, e2, _⟩ := row_form h2
  exact ⟨⟨A, c, e⟩, A2, c2, e2⟩
theorem racted_head {sv lv : Value} (ok : s'.Ok) (bl : Blows s') (h : RAt w' F g sv lv s') (hl : ∀ x, F x → x < w.heap.size) (hg : w.grownBy w' (some g)) : RActed w g F s' w' :=
  ⟨F, ⟨ok, bl, ⟨sv, lv, h⟩, fun x hx => Nat.lt_of_lt_of_le (hl x hx) hg.size⟩, (But.refl F w).grown hg (fun k e _ => by cases e; exact h.fg), fun x hx => .inl hx⟩
end

set_option maxRecDepth 100000 in
set_option maxHeartbeats 1000000 in
theorem rwaits_any {w : World} {g : Nat} {F : Nat → Prop} {s : St} (h : RDisk w g F s) :
    Calls Tryz.prog 98 #[.pointer (some ⟨g, 0, none⟩)] w fun e w' => e = .returned (.int .i64 (s.waits.length : Int)) ∧ w = w' := by
  obtain ⟨_, _, ⟨sv, lv, h⟩, _⟩ := h
  obtain ⟨_, A, c, rfl⟩ := h.lens
  have c1 := h.c1
  clear h
  go_enter Tryz.func98, Tryz.ntmps98
  go_wp2
  go_ret
  exact ⟨rfl, rfl⟩

set_option maxRecDepth 100000 in
set_option maxHeartbeats 1000000 in
theorem rlen_any {w : World} {g : Nat} {F : Nat → Prop} {s : St} (h : RDisk w g F s) :
    Calls Tryz.prog 73 #[.pointer (some ⟨g, 0, none⟩)] w fun e w' => e = .returned (.int .i64 (s.sure.length : Int)) ∧ w = w' := by
  obtain ⟨_, _, ⟨sv, lv, h⟩, _⟩ := h
  obtain ⟨⟨A, c, rfl⟩, _⟩ := h.lens
  have c0 := h.c0
  clear h
  go_enter Tryz.func73, Tryz.ntmps73
  go_wp2
  go_ret
  exact ⟨rfl, rfl⟩

set_option maxRecDepth 100000 in
set_option maxHeartbeats 1000000 in
theorem rblown_any {w : World} {g : Nat} {F : Nat → Prop} {s : St} (h : RDisk w g F s) :
    Calls Tryz.prog 100 #[.pointer (some ⟨g, 0, none⟩)] w fun e w' => e = .returned (.bool s.blown) ∧ w = w' := by
  obtain ⟨_, _, ⟨sv, lv, h⟩, _⟩ := h
  have c3 := h.c3
  clear h
  go_enter Tryz.func100, Tryz.ntmps100
  go_wp2
  go_ret
  exact ⟨rfl, rfl⟩

set_option maxRecDepth 100000 in
set_option maxHeartbeats 1000000 in
theorem rfuse_any {w : World} {g : Nat} {F : Nat → Prop} {s : St} (z : Int) (hz : z ≤ 9223372036854775807) (h : RDisk w g F s) :
    Calls Tryz.prog 15 #[.pointer (some ⟨g, 0, none⟩), .int .i64 z] w fun e w' => e = .returned (.int .i64 0) ∧ RActed w g F { s with lets := letsOf z, blown := false } w' := by
  obtain ⟨ok, bl, ⟨sv, lv, h⟩, hl⟩ := h
  have c2 := h.c2
  have c3 := h.c3
  have f2 := h.fz 2
  have f3 := h.fz 3
  have ok' : St.Ok { s with lets := letsOf z, blown := false } := ⟨ok.pos, ok.le, ok.sec, ok.wsec, by show -1 ≤ letsOf z; unfold letsOf; split <;> omega, by show letsOf z ≤ _; unfold letsOf; split <;> omega⟩
  have hG1 := setCell_grown w g 2 (.int .i64 (letsOf z))
  have hD := (h.setLets hl (letsOf z)).setBlown (fun x hx => Nat.lt_of_lt_of_le (hl x hx) hG1.size) false
  have hG : w.grownBy ((w.setCell ⟨g, 2, none⟩ (.int .i64 (letsOf z))).setCell ⟨g, 3, none⟩ (.bool false)) (some g) := by
    have h2 := setCell_grown (w.setCell ⟨g, 2, none⟩ (.int .i64 (letsOf z))) g 3 (.bool false)
    exact ⟨rfl, rfl, rfl, Nat.le_trans hG1.size h2.size, fun k hk hne => (h2.block k (Nat.lt_of_lt_of_le hk hG1.size) hne).trans (hG1.block k hk hne)⟩
  have HF := Lib.hid (racted_head ok' (fun e => by cases e) hD hl hG)
  by_cases h0 : z ≤ -1
  · have e : letsOf z = -1 := by unfold letsOf; split <;> omega
    rw [e] at HF ⊢
    have m2 : ¬ (-1 < z) := by omega
    clear h hl ok bl ok' hD hG hG1 e
    go_enter Tryz.func15, Tryz.ntmps15
    go_wp2
    go_ret
    exact ⟨rfl, HF.out⟩
  · have e : letsOf z = z := by unfold letsOf; split <;> omega
    rw [e] at HF ⊢
    clear h hl ok bl ok' hD hG hG1 e
    go_enter Tryz.func15, Tryz.ntmps15
    go_wp2
    go_ret
    exact ⟨rfl, HF.out⟩

theorem Blows.burnt {s : St} (h : Blows s) : Blows s.burnt := by
  unfold Blows St.burnt at *
  split
  · rename_i h0
    exact fun _ => h0
  · rename_i h0
    split
    · exact h
    · intro hb
      exact absurd (h hb) h0

set_option maxRecDepth 100000 in
set_option maxHeartbeats 1000000 in
theorem may_at {w : World} {F : Nat → Prop} {g : Nat} {sv lv : Value} {s : St} (ok : s.Ok) (bl : Blows s) (h : RAt w F g sv lv s) (hl : ∀ x, F x → x < w.heap.size) :
    Calls Tryz.prog 87 #[.pointer (some ⟨g, 0, none⟩)] w fun e w' => e = .returned (.bool (decide (s.lets ≠ 0))) ∧ RAt w' F g sv lv s.burnt ∧ w.grownBy w' (some g) ∧ w'.heap.size = w.heap.size := by
  have c2 := h.c2
  have c3 := h.c3
  have f2 := h.fz 2
  have f3 := h.fz 3
  have lo := ok.lo
  have hi := ok.hi
  by_cases h0 : s.lets = 0
  · have e : decide (s.lets ≠ 0) = false := by simp [h0]
    have eb : s.burnt = { s with blown := true } := by unfold St.burnt; rw [if_pos h0]
    have hB := h.setBlown hl true
    have c3' : (w.setCell ⟨g, 3, none⟩ (.bool true)).cell? ⟨g, 3, none⟩ = some (.bool true) := hB.c3
    have HF := Lib.hid (And.intro hB (And.intro (setCell_grown w g 3 (.bool true)) (show (w.setCell ⟨g, 3, none⟩ (.bool true)).heap.size = w.heap.size by simp [World.setCell])))
    rw [e, eb]
    rw [h0] at c2
    clear h ok lo hi h0 e eb hB hl bl
    go_enter Tryz.func87, Tryz.ntmps87
    go_wp2
    go_ret
    exact ⟨rfl, HF.out⟩
  · have e : decide (s.lets ≠ 0) = true := by simp [h0]
    have hbf : s.blown = false := by
      cases hb : s.blown with
      | false => rfl
      | true => exact absurd (bl hb) h0
    rw [hbf] at c3
    by_cases h1 : s.lets = -1
    · have eb : s.burnt = s := by unfold St.burnt; rw [if_neg h0, if_pos h1]
      rw [e, eb]
      have HF := Lib.hid h
      rw [h1] at c2
      clear h ok lo hi h0 e eb hl bl hbf
      go_enter Tryz.func87, Tryz.ntmps87
      go_wp2
      go_ret
      exact ⟨rfl, HF.out, ⟨rfl, rfl, rfl, Nat.le_refl _, fun _ _ _ => rfl⟩, rfl⟩
    · obtain ⟨z, hz⟩ : ∃ z : Int, s.lets = z := ⟨_, rfl⟩
      have eb : s.burnt = { s with lets := z - 1 } := by unfold St.burnt; rw [if_neg h0, if_neg h1, hz]
      have HF := Lib.hid (And.intro (h.setLets hl (z - 1)) (And.intro (setCell_grown w g 2 (.int .i64 (z - 1))) (show (w.setCell ⟨g, 2, none⟩ (.int .i64 (z - 1))).heap.size = w.heap.size by simp [World.setCell])))
      rw [e, eb]
      rw [hz] at c2 h0 h1 lo hi
      have q2 : (z == 0) = false := by simp; omega
      have q4 : 1 ≤ z := by omega
      have q5 : 0 < z := by omega
      clear h ok lo h0 h1 e eb hz hl bl hbf
      go_enter Tryz.func87, Tryz.ntmps87
      go_wp2
      go_ret
      exact ⟨rfl, HF.out⟩

end Go.Proofs.YthbgcijkpincfaaGreatDoor

/-
  The document's own disk (almonerref05): Read.
-/
namespace Go.Proofs.YthbgcijkpincfaaGreatDoor
open Go.RowKit

theorem wait_len {w : World} {F : Nat → Prop} {E : List (List Value)} {ws : List (Nat × List Nat)} (hl : E.length = ws.length) (h : ∀ (i : Nat) (x : Nat × List Nat) (e : List Value), ws[i]? = some x → E[i]? = some e → ∃ v, e = [.int .i64 (x.1 : Int), v] ∧ RSec w F v x.2) : ∀ e ∈ E, e.length = 2 := by
  intro e he
  obtain ⟨i, hi⟩ := List.mem_iff_getElem?.1 he
  have hil := (List.getElem?_eq_some_iff.1 hi).1
  obtain ⟨v, rfl, _⟩ := h i _ e (List.getElem?_eq_getElem (by omega)) hi
  rfl

set_option maxRecDepth 100000 in
set_option maxHeartbeats 2000000 in
theorem rread_any {w : World} {g : Nat} {F : Nat → Prop} {s : St} {k : Nat} {xs : List Nat} (hx : s.read[k]? = some xs) (h : RDisk w g F s) :
    Calls Tryz.prog 96 #[.pointer (some ⟨g, 0, none⟩), .int .i64 (k : Int)] w fun e w' => ∃ A c, e = .returned (.tuple #[.slice A 64 c, .int .i64 0]) ∧ In w' A 64 xs ∧ Below w.heap.size w w' := by
  obtain ⟨ok, _, ⟨sv, lv, h⟩, hl⟩ := h
  have hk : k < s.sure.length := by have := (List.getElem?_eq_some_iff.1 hx).1; rwa [s.read_length] at this
  have hki : (k : Int) < (s.sure.length : Int) := by omega
  have hm := ok.le
  obtain ⟨vals, hrow, hsec⟩ := h.sure
  obtain ⟨E, hrowL, hEl, hEs⟩ := h.l
  obtain ⟨A, c, rfl, hnc, hA, hcm⟩ := row_form hrow
  obtain ⟨AL, cL, rfl, hncL, hAL, hcmL⟩ := row_form hrowL
  obtain ⟨B, rfl⟩ := hA (by omega)
  obtain ⟨n, hn⟩ : ∃ n, s.waits.length = n := ⟨_, rfl⟩
  rw [hn] at hrowL hncL hAL h hEl
  have hE2 : ∀ e ∈ E, e.length = 2 := wait_len (by omega) hEs
  have c0 := h.c0
  have c1 := h.c1
  have hv : ∃ v0, vals[k]? = some v0 := ⟨_, List.getElem?_eq_getElem (by rw [hrow.1]; omega)⟩
  obtain ⟨v0, hv0⟩ := hv
  have cv : w.cell? ⟨B, k, none⟩ = some v0 := (hrow.cellAt k (by omega)).trans hv0
  have H := Lib.hid (And.intro h (And.intro ok (And.intro hsec (And.intro hrowL (And.intro hEl (And.intro hEs (And.intro hn (And.intro hx (And.intro hncL (And.intro hAL (And.intro hv0 (And.intro hl (And.intro hnc hE2)))))))))))))
  have hnm : n ≤ 9223372036854775807 := Nat.le_trans hncL hcmL
  clear h ok hsec hrowL hEl hEs hn hx hncL hAL hv0 hl hrow hnc hcmL hcm
  go_enter Tryz.func96, Tryz.ntmps96
  go_wp2
  go_loopw [6, 7] (fun b i wr => wr = w ∧ ∃ j : Nat, j ≤ n ∧ i = .int .i64 (j : Int) ∧ ∃ ys, (settle s.sure (s.waits.take j))[k]? = some ys ∧ Hid (RSec w F b ys)) (fun _ i _ => n - (intOf i).toNat)
  case atStart => exact ⟨rfl, 0, Nat.zero_le _, rfl, s.sure[k], List.getElem?_eq_getElem hk, Lib.hid (H.out.2.2.1 k v0 _ H.out.2.2.2.2.2.2.2.2.2.2.1 (List.getElem?_eq_getElem hk))⟩
  case round =>
    obtain ⟨rfl, j, hj, rfl, ys, hys, hb⟩ := hrel
    by_cases hlt : j < n
    · obtain ⟨gl, rfl⟩ := H.out.2.2.2.2.2.2.2.2.2.1 (by omega)
      obtain ⟨x, hx⟩ : ∃ x, s.waits[j]? = some x := ⟨_, List.getElem?_eq_getElem (by rw [H.out.2.2.2.2.2.2.1]; exact hlt)⟩
      obtain ⟨e, he⟩ : ∃ e, E[j]? = some e := ⟨_, List.getElem?_eq_getElem (by rw [H.out.2.2.2.2.1]; exact hlt)⟩
      obtain ⟨v, hev, hsv⟩ := H.out.2.2.2.2.2.1 j x e hx he
      have hlen2 := H.out.2.2.2.2.2.2.2.2.2.2.2.2.2
      have d0 : wr.cell? ⟨gl, j * 2, none⟩ = some (.int .i64 (x.1 : Int)) := by
        have := chunk_get hlen2 he (j := 0) (by omega)
        rw [(H.out.2.2.2.1.cellAt (j * 2) (by omega))]
        rw [hev] at this
        exact this
      have d1 : wr.cell? ⟨gl, j * 2 + 1, none⟩ = some v := by
        have := chunk_get hlen2 he (j := 1) (by omega)
        rw [(H.out.2.2.2.1.cellAt (j * 2 + 1) (by omega))]
        rw [hev] at this
        exact this
      have hji : (j : Int) < (n : Int) := by omega
      have HX := Lib.hid (And.intro hx hsv)
      have HY := Lib.hid hys
      clear hx he hev hsv hlen2 hys
      by_cases hkx : x.1 = k
      · have q : ((x.1 : Int) == (k : Int)) = true := by simp; omega
        go_wp2
        go_roundw
        case rel =>
          refine ⟨trivial, j + 1, by omega, by go_num, x.2, ?_, Lib.hid HX.out.2⟩
          rw [settle_take HX.out.1, hkx]
          exact List.getElem?_set_self (by rw [settle_length]; exact hk)
        case measure => simp [intOf]; omega
      · have q : ((x.1 : Int) == (k : Int)) = false := by simp; omega
        have q2 : ¬ ((x.1 : Int) = (k : Int)) := by omega
        go_wp2
        go_roundw
        case rel =>
          refine ⟨trivial, j + 1, by omega, by go_num, ys, ?_, hb⟩
          rw [settle_take HX.out.1, List.getElem?_set_ne hkx]
          exact HY.out
        case measure => simp [intOf]; omega
    · obtain rfl : j = n := by omega
      have hji : decide ((j : Int) < (j : Int)) = false := by simp
      have exs : ys = xs := by
        rw [List.take_of_length_le (by rw [H.out.2.2.2.2.2.2.1]; exact Nat.le_refl _)] at hys
        have h2 := H.out.2.2.2.2.2.2.2.1
        unfold St.read at h2
        rw [h2] at hys
        cases hys
        rfl
      subst exs
      obtain ⟨Bb, cb, rfl, hin, hcb, _⟩ := hb.out
      have hw0 : wr.ownsRow wr.heap.size 5 1 (.slice none 0 0) 0 (bvs []) := ⟨rfl, .inl ⟨rfl, rfl⟩⟩
      have HI := Lib.hid hin
      clear hys hb hin
      go_wp2_with (refine wpList_app wr rfl _ _ rfl wr.heap.size none 0 0 [] rfl hw0 (some ⟨Bb, 0, none⟩) 64 cb ys rfl HI.out (fun h => by cases h) (by omega) (Nat.le_refl _) ?_; intro A' c' w' hown hbel)
      go_ret2
      rw [List.nil_append, Nat.zero_add] at hown
      exact ⟨A', c', rfl, In.of_own hown, hbel⟩

set_option maxRecDepth 100000 in
set_option maxHeartbeats 1000000 in
theorem rread_bad {w : World} {g : Nat} {F : Nat → Prop} {s : St} (z : Int) (hz : ¬ (0 ≤ z ∧ z < (s.sure.length : Int))) (h : RDisk w g F s) :
    Calls Tryz.prog 96 #[.pointer (some ⟨g, 0, none⟩), .int .i64 z] w fun e w' => e = .returned (.tuple #[.slice none 0 0, .int .i64 1]) ∧ w = w' := by
  obtain ⟨_, _, ⟨sv, lv, h⟩, _⟩ := h
  obtain ⟨⟨A, c, rfl⟩, _⟩ := h.lens
  have c0 := h.c0
  clear h
  by_cases h1 : z < 0
  · have q : decide (z < 0) = true := by simpa using h1
    go_enter Tryz.func96, Tryz.ntmps96
    go_wp2
    go_ret2
    exact ⟨rfl, rfl⟩
  · have h2 : (s.sure.length : Int) ≤ z := by omega
    have q : decide (z < 0) = false := by simpa using h1
    go_enter Tryz.func96, Tryz.ntmps96
    go_wp2
    go_ret2
    exact ⟨rfl, rfl⟩

end Go.Proofs.YthbgcijkpincfaaGreatDoor

/-
  The document's own disk (almonerref05): Write.
-/
namespace Go.Proofs.YthbgcijkpincfaaGreatDoor
open Go.RowKit

/-- Nought bytes, and what is laid over them. -/
def nought64 : List Value := bvs (List.replicate 64 0)
theorem nought64_made : madeCells #[.int .u8 0] 64 = nought64.toArray := by kernel_rfl
theorem nought64_length : nought64.length = 64 := by rfl
theorem pad_splice (xs : List Nat) : splice nought64 0 (bvs xs) = bvs (pad xs) := by
  rw [splice, pad, bvs_append, bvs_length, Nat.zero_add, List.take_zero, List.nil_append]
  have hz : nought64 = List.replicate 64 (bv 0) := List.map_replicate ..
  have hz2 : bvs (List.replicate (64 - xs.length) 0) = List.replicate (64 - xs.length) (bv 0) := List.map_replicate ..
  rw [hz, hz2, List.drop_replicate]

theorem infoWait : (Tryz.prog.info? 143).map (fun i => (i.zero, i.size, i.bytes)) = some (some (.agg #[.int .i64 0, .slice none 0 0]), 2, 32) := by kernel_rfl

theorem bsec {w : World} {F : Nat → Prop} {B : Nat} {xs : List Nat} (h : w.heap[B]? = some (.cells (bvs xs).toArray 5 (0, 0))) (hl : xs.length = 64) (hF : F B) : RSec w F (.slice (some ⟨B, 0, none⟩) 64 64) xs :=
  ⟨B, 64, rfl, ⟨hl, fun j x hx => ⟨_, rfl, BArr.at_ (T := 5) h j x hx⟩⟩, Nat.le_refl _, hF, _, h⟩

theorem rwrite_rest {w w1 w2 w3 : World} {g : Nat} {F : Nat → Prop} {s : St} {k n c1 : Nat} {xs : List Nat} {A1 : Option Addr} {sv : Value} (ok : s.Ok) (bl : Blows s) (hl : ∀ x, F x → x < w.heap.size)
    (h1 : RAt w1 F g sv (.slice A1 n c1) s.burnt) (hg1 : w.grownBy w1 (some g)) (hs1 : w1.heap.size = w.heap.size)
    (hB : w2.heap[w1.heap.size]? = some (.cells (bvs (pad xs)).toArray 5 (0, 0))) (hb2 : Below w1.heap.size w1 w2) {E : List (List Value)}
    (hn : s.waits.length = n) (e1 : w1.ownsRow 0 143 2 (.slice A1 n c1) n E.flatten) (e2 : E.length = n)
    (e3 : ∀ (i : Nat) (x : Nat × List Nat) (e : List Value), s.waits[i]? = some x → E[i]? = some e → ∃ v, e = [.int .i64 (x.1 : Int), v] ∧ RSec w1 F v x.2)
    (hk : k < s.sure.length) (hx64 : xs.length ≤ 64) (hxb : ∀ x ∈ xs, x < 256) {gg cap : Nat}
    (hown : w3.ownsRow 0 143 2 (.slice (some ⟨gg, 0, none⟩) (n + 1) cap) (n + 1) (E.flatten ++ [.int .i64 (k : Int), .slice (some ⟨w1.heap.size, 0, none⟩) 64 64]))
    (hgrow : (w2.alloc (.cells #[.int .i64 (k : Int), .slice (some ⟨w1.heap.size, 0, none⟩) 64 64] 143)).grownBy w3 (Value.slice A1 n c1).ownBlock)
    (hat : (Value.slice A1 n c1).ownBlock = some gg ∨ w1.heap.size < gg) :
    RActed w g F (s.wrote k xs) (w3.setCell ⟨g, 1, none⟩ (.slice (some ⟨gg, 0, none⟩) (n + 1) cap)) := by
  obtain ⟨lv, hlv⟩ : ∃ lv, Value.slice A1 n c1 = lv := ⟨_, rfl⟩
  rw [hlv] at h1 e1 hgrow hat
  have hB2 := (Array.getElem?_eq_some_iff.1 hB).1
  have s3 := hgrow.size
  rw [World.size_alloc] at s3
  have gl : g < w1.heap.size := (Array.getElem?_eq_some_iff.1 h1.head).1
  have ggl : gg < w3.heap.size := own_lt hown rfl
  obtain ⟨V, hV⟩ : ∃ V, V = Value.slice (some ⟨gg, 0, none⟩) (n + 1) cap := ⟨_, rfl⟩
  rw [← hV] at hown ⊢
  have s6 : (w3.setCell ⟨g, 1, none⟩ V).heap.size = w3.heap.size := by simp [World.setCell]
  have h6 : ∀ x, x ≠ g → (w3.setCell ⟨g, 1, none⟩ V).heap[x]? = w3.heap[x]? := fun x hx => heap_setCell_other w3 ⟨g, 1, none⟩ x V hx
  have hold3 : ∀ x, x < w2.heap.size → lv.ownBlock ≠ some x → w3.heap[x]? = w2.heap[x]? := fun x hx hne =>
    (hgrow.block x (by rw [World.size_alloc]; omega) (fun e => hne e.symm)).trans (heap_alloc_old w2 _ hx)
  have hold : ∀ x, x < w1.heap.size → lv.ownBlock ≠ some x → x ≠ g → (w3.setCell ⟨g, 1, none⟩ V).heap[x]? = w1.heap[x]? := fun x hx hne hg =>
    (h6 x hg).trans ((hold3 x (by omega) hne).trans (hb2.block x hx))
  have hg3 : w3.heap[g]? = w1.heap[g]? := (hold3 g (by omega) (fun e => h1.gl e rfl)).trans (hb2.block g gl)
  have hlt1 : ∀ x, F x → x < w1.heap.size := fun x hx => by have := hl x hx; omega
  have hbyte : ∀ b cur, F b → w1.heap[b]? = some (.cells cur 5 (0, 0)) → (w3.setCell ⟨g, 1, none⟩ V).heap[b]? = w1.heap[b]? := fun b cur hF hc =>
    hold b (hlt1 b hF) (fun e => by obtain ⟨cur', hc'⟩ := own_type e1 e; exact block_ne hc' hc rt6 rfl) (block_ne h1.head hc rt3).symm
  have hnewB : (w3.setCell ⟨g, 1, none⟩ V).heap[w1.heap.size]? = some (.cells (bvs (pad xs)).toArray 5 (0, 0)) :=
    (h6 _ (by omega)).trans ((hold3 _ hB2 (fun e => by have := hlt1 _ (h1.fl _ e); omega)).trans hB)
  have gne : gg ≠ g := by
    rcases hat with e | e
    · exact (h1.gl e).symm
    · omega
  have hF' : ∀ x, F x → (F x ∨ (w.heap.size ≤ x ∧ x < (w3.setCell ⟨g, 1, none⟩ V).heap.size)) := fun x hx => .inl hx
  have hRA : RAt (w3.setCell ⟨g, 1, none⟩ V) (fun x => F x ∨ (w.heap.size ≤ x ∧ x < (w3.setCell ⟨g, 1, none⟩ V).heap.size)) g sv V (s.wrote k xs) := by
    refine ⟨heap_setCell_same w3 g 1 _ _ V (hg3.trans h1.head), ?_, ?_, .inl h1.fg, fun b e => .inl (h1.fs b e), fun b e => ?_⟩
    · refine (h1.sure.block (fun b e => ?_) hbyte).mono hF'
      refine hold b (hlt1 b (h1.fs b e)) (fun e' => ?_) (h1.gs e).symm
      obtain ⟨vals, hr, _⟩ := h1.sure
      obtain ⟨cur, hc⟩ := own_type hr e
      obtain ⟨cur', hc'⟩ := own_type e1 e'
      exact block_ne hc hc' rt4 rfl
    · refine ⟨E ++ [[.int .i64 (k : Int), .slice (some ⟨w1.heap.size, 0, none⟩) 64 64]], ?_, ?_, ?_⟩
      · have : (s.wrote k xs).waits.length = n + 1 := by show (s.waits ++ [(k, pad xs)]).length = _; rw [List.length_append, hn]; rfl
        rw [this, List.flatten_append]
        exact own_block hown (fun b hb => by rw [hV] at hb; cases hb; exact h6 _ gne)
      · show _ = (s.waits ++ [(k, pad xs)]).length
        rw [List.length_append, List.length_append, e2, hn]
        rfl
      · intro i x e hi he
        have hi' : (s.waits ++ [(k, pad xs)])[i]? = some x := hi
        by_cases hlt : i < n
        · rw [List.getElem?_append_left (by omega)] at hi' he
          obtain ⟨v, ev, hs⟩ := e3 i x e hi' he
          exact ⟨v, ev, (hs.block hbyte).mono hF'⟩
        · rw [List.getElem?_append_right (by omega)] at hi' he
          have hi0 : i - E.length = 0 := by have := (List.getElem?_eq_some_iff.1 he).1; simp at this; omega
          have hi1 : i - s.waits.length = 0 := by omega
          rw [hi0] at he
          rw [hi1] at hi'
          cases he
          cases hi'
          exact ⟨_, rfl, bsec hnewB (pad_length hx64) (.inr ⟨by omega, by rw [s6]; omega⟩)⟩
    · rw [hV] at e
      cases e
      rcases hat with e | e
      · exact .inl (h1.fl _ e)
      · exact .inr ⟨by show w.heap.size ≤ gg; omega, by rw [s6]; exact ggl⟩
  refine ⟨_, ⟨ok.wrote hk hx64 hxb, bl.burnt, ⟨sv, V, hRA⟩, fun x hx => ?_⟩, ?_, fun x hx => ?_⟩
  · rcases hx with hx | hx
    · have := hlt1 x hx; rw [s6]; omega
    · exact hx.2
  · have b1 : But F w w1 := (But.refl F w).grown hg1 (fun y e _ => by cases e; exact h1.fg)
    have b2 : But F w w2 := b1.trans (But.of_below hb2)
    exact (((b2.alloc _).grown hgrow (fun y e _ => h1.fl y e))).set 1 V (fun _ => h1.fg)
  · rcases hx with hx | hx
    · exact .inl hx
    · exact .inr hx.1

set_option maxRecDepth 100000 in
set_option maxHeartbeats 2000000 in
theorem rwrite_any {w : World} {g : Nat} {F : Nat → Prop} {s : St} {k n c : Nat} {A : Option Addr} {xs : List Nat} (hk : k < s.sure.length) (hn : n ≤ 64) (hin : In w A n xs) (hb : ∀ x ∈ xs, x < 256) (hA : 0 < n → ∀ ad, A = some ad → ¬ F ad.block) (hl0 : s.lets ≠ 0) (hw : s.waits.length ≤ 1000000) (h : RDisk w g F s) :
    Calls Tryz.prog 21 #[.pointer (some ⟨g, 0, none⟩), .int .i64 (k : Int), .slice A n c] w fun e w' => e = .returned (.int .i64 0) ∧ RActed w g F (s.wrote k xs) w' := by
  obtain ⟨ok, bl, ⟨sv, lv, h⟩, hl⟩ := h
  have hki : (k : Int) < (s.sure.length : Int) := by omega
  have hm := may_at ok bl h hl
  obtain ⟨⟨A0, c0', rfl⟩, A1, c1', rfl⟩ := h.lens
  have c0 := h.c0
  have hni : decide (64 < (n : Int)) = false := by simp; omega
  rw [show decide (s.lets ≠ 0) = true by simpa using hl0] at hm
  have H := Lib.hid (And.intro ok (And.intro bl (And.intro h (And.intro hl (And.intro hin (And.intro (fun h0 ad e e2 => hA h0 ad e (e2 ▸ h.fg) : 0 < n → ∀ ad, A = some ad → ad.block ≠ g) (And.intro hk (And.intro hn hb))))))))
  clear ok bl h hl hl0 hin hA hk hn hb
  go_enter Tryz.func21, Tryz.ntmps21
  go_wp2_with fail
  refine hm.mono ?_
  rintro e w1 ⟨rfl, h1, hg1, hs1⟩
  have H1 := Lib.hid (And.intro h1 (And.intro hg1 hs1))
  clear h1 hg1 hs1 hm c0
  have hmk : (Instr.makeSlice 50 (.int .i64 64) (.int .i64 64)).run Tryz.prog w1 = .ok (.slice (some ⟨w1.heap.size, 0, none⟩) 64 64) (w1.alloc (.cells (madeCells #[.int .u8 0] 64) 5)) := make_bytes 64 64 (Nat.le_refl _) (by omega) w1
  rw [nought64_made] at hmk
  have hcp : ∀ (ops : Array Oper) (rest : List Oper) (o : Oper) (a : Act) (Q : Exit → Act → World → Prop) (d src : Operand), o.guard = none → o.op = .call { callee := .builtin .copy, args := #[d, src], argTypes := #[50, 50] } →
      a.eval d = .slice (some ⟨w1.heap.size, 0, none⟩) 64 64 → a.eval src = .slice A n c →
      (∀ w', Hid (w'.heap[w1.heap.size]? = some (.cells (bvs (pad xs)).toArray 5 (0, 0)) ∧ Below w1.heap.size w1 w') → wpList Tryz.prog ops Q rest (a.put o.dst (.int .i64 (n : Int))) w') →
      wpList Tryz.prog ops Q (o :: rest) a (w1.alloc (Obj.cells nought64.toArray 5)) := fun ops rest o a Q d src hgd ho hd hs hK => by
    have hin2 := ((H.out.2.2.2.2.1.far H.out.2.2.2.2.2.1 H1.out.2.1).below (below_alloc w1 (Obj.cells nought64.toArray 5)))
    have hxn : (bvs xs).length = n := by rw [bvs_length, H.out.2.2.2.2.1.len]
    refine wpList_copy_splice hgd d src 50 50 ho 5 Tryz.underlying50 sizeByte _ A 64 64 n c hd hs w1.heap.size 0 nought64 5 (World.alloc_heap_new w1 _) (bvs xs) (by rw [hxn]; exact (Nat.min_eq_left H.out.2.2.2.2.2.2.2.1).symm) (fun h0 => ⟨rfl, hin2.src h0⟩) (by rw [hxn, nought64_length]; have := H.out.2.2.2.2.2.2.2.1; omega) (bvs_oneCell xs) w1.heap.size w1 (below_alloc w1 _) (Nat.le_refl _) ?_
    intro w' h1 h2
    rw [hxn]
    rw [pad_splice] at h1
    exact hK w' (Lib.hid ⟨h1, h2⟩)
  have HCP := Lib.hid hcp
  clear hcp
  have hc2 : ∀ w2, Hid (w2.heap[w1.heap.size]? = some (.cells (bvs (pad xs)).toArray 5 (0, 0)) ∧ Below w1.heap.size w1 w2) → w2.cell? ⟨g, 1, none⟩ = some (.slice A1 s.waits.length c1') ∧ w2.frozen? ⟨g, 1, none⟩ = false := fun w2 H2 => by
    have hg : w2.heap[g]? = w1.heap[g]? := H2.out.2.block g (Array.getElem?_eq_some_iff.1 H1.out.1.head).1
    exact ⟨(World.cell?_of_block hg).trans H1.out.1.c1, (World.frozen?_of_block hg).trans (H1.out.1.fz 1)⟩
  have HC2 := Lib.hid hc2
  clear hc2
  obtain ⟨i0, hi, hz0, hz1, hz2⟩ := info_parts infoWait
  obtain ⟨E, e1, e2, e3⟩ := H1.out.1.l
  rw [St.burnt_waits] at e1 e2 e3
  obtain ⟨m, hm⟩ : ∃ m, s.waits.length = m := ⟨_, rfl⟩
  rw [hm] at e1 e2 HC2 H1 H hw
  have hown2 : ∀ w2, Hid (w2.heap[w1.heap.size]? = some (.cells (bvs (pad xs)).toArray 5 (0, 0)) ∧ Below w1.heap.size w1 w2) → ∀ o, (w2.alloc o).ownsRow 0 143 2 (.slice A1 m c1') m E.flatten := fun w2 H2 o =>
    own_block e1 (fun b hb => by
      have := own_lt e1 hb
      exact (heap_alloc_old w2 o (by have := H2.out.2.size; omega)).trans (H2.out.2.block b this))
  have hcl : ∀ w2, Hid (w2.heap[w1.heap.size]? = some (.cells (bvs (pad xs)).toArray 5 (0, 0)) ∧ Below w1.heap.size w1 w2) → ∀ o w3, (w2.alloc o).grownBy w3 (Value.slice A1 m c1').ownBlock → w3.cell? ⟨g, 1, none⟩ = some (.slice A1 m c1') ∧ w3.frozen? ⟨g, 1, none⟩ = false := fun w2 H2 o w3 hg => by
    have gl : g < w1.heap.size := (Array.getElem?_eq_some_iff.1 H1.out.1.head).1
    have h2 := H2.out.2.size
    have hb : w3.heap[g]? = w1.heap[g]? := (hg.block g (by rw [World.size_alloc]; omega) (fun e => H1.out.1.gl e.symm rfl)).trans ((heap_alloc_old w2 o (by omega)).trans (H2.out.2.block g gl))
    exact ⟨(World.cell?_of_block hb).trans H1.out.1.c1, (World.frozen?_of_block hb).trans (H1.out.1.fz 1)⟩
  have HD := Lib.hid (And.intro hown2 (And.intro hcl (And.intro e1 (And.intro e2 (And.intro e3 hm)))))
  clear hown2 hcl e1 e2 e3 hm
  go_wp2_with (first
    | (with_reducible refine HCP.out _ _ _ _ _ _ _ rfl rfl rfl rfl ?_; intro w2 H2; obtain ⟨c1, f1⟩ := HC2.out w2 H2)
    | (at_builtin; refine wpList_append_lies _ rfl _ _ 115 rfl 0 143 i0 _ 2 32 Tryz.underlying115 hi hz0 hz1 hz2 (by rfl) (by decide) _ m E.flatten rfl (HD.out.1 w2 H2 _) ⟨w2.heap.size, 0, none⟩ 1 1 [.int .i64 (k : Int), .slice (some ⟨w1.heap.size, 0, none⟩) 64 64] rfl rfl (World.news_of_block (cs := #[.int .i64 (k : Int), .slice (some ⟨w1.heap.size, 0, none⟩) 64 64]) (t := 143) (fr := (0, 0)) (World.alloc_heap_new w2 _)) (by simp [Value.oneCell']) (by decide) (by unfold maxLen; omega) (by omega) (Nat.zero_le _) _ rfl ?_; intro gg cap w3 hown hgrow hat hlt2; obtain ⟨c3, f3⟩ := HD.out.2.1 w2 H2 _ w3 hgrow))
  go_ret
  refine ⟨rfl, rwrite_rest H.out.1 H.out.2.1 H.out.2.2.2.1 H1.out.1 H1.out.2.1 H1.out.2.2 H2.out.1 H2.out.2 HD.out.2.2.2.2.2 HD.out.2.2.1 HD.out.2.2.2.1 HD.out.2.2.2.2.1 H.out.2.2.2.2.2.2.1 (by rw [H.out.2.2.2.2.1.len]; exact H.out.2.2.2.2.2.2.2.1) H.out.2.2.2.2.2.2.2.2 hown hgrow (hat.imp id (fun e => ?_))⟩
  have := H2.out.2.size
  have := (Array.getElem?_eq_some_iff.1 H2.out.1).1
  rw [e, World.size_alloc]
  omega

end Go.Proofs.YthbgcijkpincfaaGreatDoor

/-
  The document's own disk (almonerref05): Write that is not let be; sync, Sync.
-/
namespace Go.Proofs.YthbgcijkpincfaaGreatDoor
open Go.RowKit

set_option maxRecDepth 100000 in
set_option maxHeartbeats 1000000 in
theorem rwrite_bad {w : World} {g : Nat} {F : Nat → Prop} {s : St} (z : Int) (A : Option Addr) (n c : Nat) (hz : ¬ (0 ≤ z ∧ z < (s.sure.length : Int) ∧ n ≤ 64)) (h : RDisk w g F s) :
    Calls Tryz.prog 21 #[.pointer (some ⟨g, 0, none⟩), .int .i64 z, .slice A n c] w fun e w' => e = .returned (.int .i64 1) ∧ w = w' := by
  obtain ⟨_, _, ⟨sv, lv, h⟩, _⟩ := h
  obtain ⟨⟨A0, c0', rfl⟩, _⟩ := h.lens
  have c0 := h.c0
  clear h
  by_cases h1 : z < 0
  · have q : decide (z < 0) = true := by simpa using h1
    clear hz
    go_enter Tryz.func21, Tryz.ntmps21
    go_wp2
    go_ret
    exact ⟨rfl, rfl⟩
  · have q : decide (z < 0) = false := by simpa using h1
    by_cases h2 : (s.sure.length : Int) ≤ z
    · clear hz
      go_enter Tryz.func21, Tryz.ntmps21
      go_wp2
      go_ret
      exact ⟨rfl, rfl⟩
    · have h3 : 64 < n := by omega
      have h4 : (64 : Int) < (n : Int) := by omega
      have q2 : decide ((s.sure.length : Int) ≤ z) = false := by simpa using h2
      clear hz
      go_enter Tryz.func21, Tryz.ntmps21
      go_wp2
      go_ret
      exact ⟨rfl, rfl⟩

set_option maxRecDepth 100000 in
set_option maxHeartbeats 1000000 in
theorem rwrite_blow {w : World} {g : Nat} {F : Nat → Prop} {s : St} {k : Nat} (hk : k < s.sure.length) (A : Option Addr) (n c : Nat) (hn : n ≤ 64) (hl0 : s.lets = 0) (h : RDisk w g F s) :
    Calls Tryz.prog 21 #[.pointer (some ⟨g, 0, none⟩), .int .i64 (k : Int), .slice A n c] w fun e w' => e = .returned (.int .i64 9) ∧ RActed w g F s.burnt w' := by
  obtain ⟨ok, bl, ⟨sv, lv, h⟩, hl⟩ := h
  have hki : (k : Int) < (s.sure.length : Int) := by omega
  have hm := may_at ok bl h hl
  obtain ⟨⟨A0, c0', rfl⟩, A1, c1', rfl⟩ := h.lens
  have c0 := h.c0
  have hni : decide (64 < (n : Int)) = false := by simp; omega
  rw [show decide (s.lets ≠ 0) = false by simpa using hl0] at hm
  have H := Lib.hid (And.intro ok (And.intro bl hl))
  clear ok bl h hl hl0
  go_enter Tryz.func21, Tryz.ntmps21
  go_wp2_with fail
  refine hm.mono ?_
  rintro e w1 ⟨rfl, h1, hg1, hs1⟩
  go_wp2
  go_ret
  exact ⟨rfl, racted_head H.out.1.burnt H.out.2.1.burnt h1 H.out.2.2 hg1⟩

/-- The sectors, as rows in block B. -/
def Pages (w : World) (F : Nat → Prop) (B m c : Nat) (R : List (List Nat)) : Prop :=
  ∃ vals, w.ownsRow 0 50 1 (.slice (some ⟨B, 0, none⟩) m c) m vals ∧ ∀ (i : Nat) (v : Value) (xs : List Nat), vals[i]? = some v → R[i]? = some xs → RSec w F v xs
theorem Pages.cellAt {w : World} {F : Nat → Prop} {B m c k : Nat} {R : List (List Nat)} (h : Pages w F B m c R) (hk : k < m) : (∃ u, w.cell? ⟨B, k, none⟩ = some u) ∧ w.frozen? ⟨B, k, none⟩ = false := by
  obtain ⟨vals, h, _⟩ := h
  rcases h.2 with ⟨e, _⟩ | ⟨g', cap', cur, e, hb, hg, hle, hm, hs, htk⟩
  · cases e
  · cases e
    exact ⟨⟨cur[k]'(by omega), by rw [cell_of_row _ B k _ _ (0, 0) hg]; exact Array.getElem?_eq_getElem (by omega)⟩, frozen_of_row _ B k _ _ hg⟩
theorem Pages.set {w : World} {F : Nat → Prop} {B m c k : Nat} {R : List (List Nat)} (h : Pages w F B m c R) {v : Value} {xs : List Nat} (hv : RSec w F v xs) : Pages (w.setCell ⟨B, k, none⟩ v) F B m c (R.set k xs) := by
  obtain ⟨vals, h1, h2⟩ := h
  have hb : ∀ b cur, F b → w.heap[b]? = some (.cells cur 5 (0, 0)) → (w.setCell ⟨B, k, none⟩ v).heap[b]? = w.heap[b]? := fun b cur _ hc => by
    obtain ⟨cur', hc'⟩ := own_type h1 rfl
    exact heap_setCell_other w ⟨B, k, none⟩ b v (block_ne hc' hc rt5).symm
  refine ⟨vals.set k v, ?_, fun i u ys hi hy => ?_⟩
  · rcases h1.2 with ⟨e, _⟩ | ⟨g', cap', cur, e, hb, hg, hle, hm, hs, htk⟩
    · cases e
    · cases e
      refine ⟨by rw [List.length_set]; exact h1.1, .inr ⟨B, c, cur.setIfInBounds k v, rfl, hb, heap_setCell_same w B k cur _ v hg, hle, hm, by simp [hs], ?_⟩⟩
      rw [Array.toList_setIfInBounds, List.take_set, htk]
  · by_cases e : i = k
    · subst e
      have l1 := (List.getElem?_eq_some_iff.1 hi).1
      have l2 := (List.getElem?_eq_some_iff.1 hy).1
      rw [List.length_set] at l1 l2
      rw [List.getElem?_set_self l1] at hi
      rw [List.getElem?_set_self l2] at hy
      cases hi
      cases hy
      exact hv.block hb
    · rw [List.getElem?_set_ne (fun h => e h.symm)] at hi hy
      exact (h2 i u ys hi hy).block hb
theorem Pages.drew {w : World} {F : Nat → Prop} {B m c : Nat} {R : List (List Nat)} (h : Pages w F B m c R) : Pages w.drew F B m c R := by
  obtain ⟨vals, h1, h2⟩ := h
  exact ⟨vals, own_block h1 (fun _ _ => rfl), fun i v xs hi hx => (h2 i v xs hi hx).block (fun _ _ _ _ => rfl)⟩
theorem RSec.drew {w : World} {F : Nat → Prop} {v : Value} {xs : List Nat} (h : RSec w F v xs) : RSec w.drew F v xs := h.block (fun _ _ _ _ => rfl)
theorem rsync_rest {w wr : World} {g B m n c : Nat} {F : Nat → Prop} {lv : Value} {s : St} (h : RAt w F g (.slice (some ⟨B, 0, none⟩) m c) lv s) (hn : s.waits.length = n) (hm : s.sure.length = m)
    (hp : Pages wr F B m c (settle s.sure (s.waits.take n))) (hb : But (fun y => y = B) w wr) (hs : wr.heap.size = w.heap.size) :
    RAt (wr.setCell ⟨g, 1, none⟩ (.slice none 0 0)) F g (.slice (some ⟨B, 0, none⟩) m c) (.slice none 0 0) s.settled ∧ But F w (wr.setCell ⟨g, 1, none⟩ (.slice none 0 0)) ∧ (wr.setCell ⟨g, 1, none⟩ (.slice none 0 0)).heap.size = w.heap.size := by
  have hgB : g ≠ B := h.gs rfl
  rw [List.take_of_length_le (by omega)] at hp
  obtain ⟨vals, h1, h2⟩ := hp
  have hgr : wr.heap[g]? = w.heap[g]? := hb.block g (Array.getElem?_eq_some_iff.1 h.head).1 hgB
  have h6 : ∀ x, x ≠ g → (wr.setCell ⟨g, 1, none⟩ (.slice none 0 0)).heap[x]? = wr.heap[x]? := fun x hx => heap_setCell_other wr ⟨g, 1, none⟩ x _ hx
  refine ⟨⟨heap_setCell_same wr g 1 _ _ (.slice none 0 0) (hgr.trans h.head), ⟨vals, ?_, fun i v xs hi hx => ?_⟩, ⟨[], ⟨rfl, .inl ⟨rfl, rfl⟩⟩, rfl, fun i x e hi => by cases hi⟩, h.fg, h.fs, fun b e => by cases e⟩, ?_, by simp [World.setCell, hs]⟩
  · rw [show s.settled.sure.length = m from (s.read_length).trans hm]
    exact own_block h1 (fun b e => by cases e; exact h6 _ hgB.symm)
  · refine (h2 i v xs hi hx).block (fun b cur _ hc => h6 b ?_)
    have := hgr.trans h.head
    exact (block_ne this hc rt3).symm
  · exact (hb.mono (fun x _ hx => by rw [hx]; exact h.fs B rfl)).set 1 _ (fun _ => h.fg)

set_option maxRecDepth 100000 in
set_option maxHeartbeats 2000000 in
theorem rsync_at {w : World} {g : Nat} {F : Nat → Prop} {sv lv : Value} {s : St} (ok : s.Ok) (h : RAt w F g sv lv s) (hl : ∀ x, F x → x < w.heap.size) :
    Calls Tryz.prog 85 #[.pointer (some ⟨g, 0, none⟩)] w fun e w' => e = .returned (.tuple #[]) ∧ RAt w' F g sv (.slice none 0 0) s.settled ∧ But F w w' ∧ w'.heap.size = w.heap.size := by
  obtain ⟨vals, hrow, hsec⟩ := h.sure
  obtain ⟨E, hrowL, hEl, hEs⟩ := h.l
  obtain ⟨A, c, rfl, hnc, hA, hcm⟩ := row_form hrow
  obtain ⟨AL, cL, rfl, hncL, hAL, hcmL⟩ := row_form hrowL
  have hp := ok.pos
  obtain ⟨B, rfl⟩ := hA (by omega)
  obtain ⟨n, hn⟩ : ∃ n, s.waits.length = n := ⟨_, rfl⟩
  obtain ⟨m, hm⟩ : ∃ m, s.sure.length = m := ⟨_, rfl⟩
  rw [hn] at hrowL hncL hAL h hEl
  rw [hm] at hrow hnc h ⊢
  have hE2 : ∀ e ∈ E, e.length = 2 := wait_len (by omega) hEs
  have c1 := h.c1
  have f1 := h.fz 1
  have hnm : n ≤ 9223372036854775807 := Nat.le_trans hncL hcmL
  have hgB : g ≠ B := h.gs rfl
  have H := Lib.hid (And.intro h (And.intro ok (And.intro hsec (And.intro hrowL (And.intro hEl (And.intro hEs (And.intro hn (And.intro hm (And.intro hncL (And.intro hAL (And.intro hl (And.intro hE2 (And.intro hrow hgB)))))))))))))
  clear h ok hsec hrowL hEl hEs hn hm hncL hAL hl hE2 hrow hnc hcmL hcm hA hp hgB
  go_enter Tryz.func85, Tryz.ntmps85
  go_wp2
  go_loopw [2] (fun i wr => ∃ j : Nat, j ≤ n ∧ i = .int .i64 (j : Int) ∧ Hid (Pages wr F B m c (settle s.sure (s.waits.take j)) ∧ But (fun x => x = B) w wr ∧ wr.heap.size = w.heap.size)) (fun i _ => n - (intOf i).toNat)
  case atStart => exact ⟨0, Nat.zero_le _, rfl, Lib.hid ⟨⟨vals, H.out.2.2.2.2.2.2.2.2.2.2.2.2.1, H.out.2.2.1⟩, But.refl _ w, rfl⟩⟩
  case round =>
    obtain ⟨j, hj, rfl, hrel⟩ := hrel
    by_cases hlt : j < n
    · obtain ⟨gl, rfl⟩ := H.out.2.2.2.2.2.2.2.2.2.1 (by omega)
      obtain ⟨x, hx⟩ : ∃ x, s.waits[j]? = some x := ⟨_, List.getElem?_eq_getElem (by rw [H.out.2.2.2.2.2.2.1]; exact hlt)⟩
      obtain ⟨e, he⟩ : ∃ e, E[j]? = some e := ⟨_, List.getElem?_eq_getElem (by rw [H.out.2.2.2.2.1]; exact hlt)⟩
      obtain ⟨v, hev, hsv⟩ := H.out.2.2.2.2.2.1 j x e hx he
      obtain ⟨Bv, cv, rfl⟩ : ∃ Bv cv, v = .slice (some ⟨Bv, 0, none⟩) 64 cv := by obtain ⟨Bv, cv, e, _⟩ := hsv; exact ⟨Bv, cv, e⟩
      have hlen2 := H.out.2.2.2.2.2.2.2.2.2.2.2.1
      have hrowL := H.out.2.2.2.1
      have hglB : gl ≠ B := fun e => by
        obtain ⟨cur, hc⟩ := own_type hrowL rfl
        obtain ⟨cur', hc'⟩ := own_type H.out.2.2.2.2.2.2.2.2.2.2.2.2.1 rfl
        exact block_ne hc' hc rt4 e.symm
      have hgw : ∀ y, y < w.heap.size → y ≠ B → wr.heap[y]? = w.heap[y]? := fun y hy hne => hrel.out.2.1.block y hy hne
      have hglh := hgw gl (own_lt hrowL rfl) hglB
      have hgh := hgw g (Array.getElem?_eq_some_iff.1 H.out.1.head).1 H.out.2.2.2.2.2.2.2.2.2.2.2.2.2
      have c0 : wr.cell? ⟨g, 0, none⟩ = some (.slice (some ⟨B, 0, none⟩) m c) := (World.cell?_of_block hgh).trans H.out.1.c0
      have c1' : wr.cell? ⟨g, 1, none⟩ = some (.slice (some ⟨gl, 0, none⟩) n cL) := (World.cell?_of_block hgh).trans c1
      have d0 : wr.cell? ⟨gl, j * 2, none⟩ = some (.int .i64 (x.1 : Int)) := by
        have := chunk_get hlen2 he (j := 0) (by omega)
        rw [World.cell?_of_block hglh, (hrowL.cellAt (j * 2) (by omega))]
        rw [hev] at this
        exact this
      have d1 : wr.cell? ⟨gl, j * 2 + 1, none⟩ = some (.slice (some ⟨Bv, 0, none⟩) 64 cv) := by
        have := chunk_get hlen2 he (j := 1) (by omega)
        rw [World.cell?_of_block hglh, (hrowL.cellAt (j * 2 + 1) (by omega))]
        rw [hev] at this
        exact this
      have hk : x.1 < m := by rw [← H.out.2.2.2.2.2.2.2.1]; exact (H.out.2.1.wsec x (List.mem_of_getElem? hx)).1
      have hki : (x.1 : Int) < (m : Int) := by omega
      obtain ⟨⟨u0, q0⟩, q1⟩ := hrel.out.1.cellAt hk
      have hji : (j : Int) < (n : Int) := by omega
      have hsw : RSec wr F (.slice (some ⟨Bv, 0, none⟩) 64 cv) x.2 := hsv.block (fun b cur hF hc => hgw b (H.out.2.2.2.2.2.2.2.2.2.2.1 b hF) (fun e => by
        obtain ⟨cur', hc'⟩ := own_type H.out.2.2.2.2.2.2.2.2.2.2.2.2.1 rfl
        exact block_ne hc' hc rt5 e.symm))
      have HX := Lib.hid (And.intro hx hsw)
      clear hx he hev hsv hlen2 hrowL hglB hgw hglh hgh hsw c1 f1
      go_wp2
      go_still_tail 21, (by kernel_rfl)
      have hP : Pages (wr.drew.setCell ⟨B, x.1, none⟩ (.slice (some ⟨Bv, 0, none⟩) 64 cv)) F B m c (settle s.sure (s.waits.take (j + 1))) := by
        rw [settle_take HX.out.1]
        exact Pages.set (w := wr.drew) hrel.out.1.drew HX.out.2.drew
      have hbut : But (fun y => y = B) w (wr.drew.setCell ⟨B, x.1, none⟩ (.slice (some ⟨Bv, 0, none⟩) 64 cv)) := hrel.out.2.1.drew.set x.1 _ (fun _ => rfl)
      have hsz : (wr.drew.setCell ⟨B, x.1, none⟩ (.slice (some ⟨Bv, 0, none⟩) 64 cv)).heap.size = w.heap.size := by rw [← hrel.out.2.2]; exact (show (wr.drew.setCell _ _).heap.size = wr.heap.size by simp [World.setCell])
      have HN := Lib.hid (And.intro hP (And.intro hbut hsz))
      clear hP hbut hsz
      go_wp2
      go_roundw
      case rel => exact ⟨j + 1, by omega, by go_num, HN⟩
      case measure => simp [intOf]; omega
    · obtain rfl : j = n := by omega
      have hji : decide ((j : Int) < (j : Int)) = false := by simp
      have hgr : wr.heap[g]? = w.heap[g]? := hrel.out.2.1.block g (Array.getElem?_eq_some_iff.1 H.out.1.head).1 H.out.2.2.2.2.2.2.2.2.2.2.2.2.2
      have c1' : wr.cell? ⟨g, 1, none⟩ = some (.slice AL j cL) := (World.cell?_of_block hgr).trans c1
      have f1' : wr.frozen? ⟨g, 1, none⟩ = false := (World.frozen?_of_block hgr).trans f1
      clear c1 f1
      go_wp2
      go_end0
      refine ⟨rfl, rsync_rest H.out.1 H.out.2.2.2.2.2.2.1 H.out.2.2.2.2.2.2.2.1 hrel.out.1 hrel.out.2.1 hrel.out.2.2⟩

theorem Blows.settled {s : St} (h : Blows s) : Blows s.settled := h

set_option maxRecDepth 100000 in
set_option maxHeartbeats 1000000 in
theorem rsync_any {w : World} {g : Nat} {F : Nat → Prop} {s : St} (hl0 : s.lets ≠ 0) (h : RDisk w g F s) :
    Calls Tryz.prog 77 #[.pointer (some ⟨g, 0, none⟩)] w fun e w' => e = .returned (.int .i64 0) ∧ RActed w g F s.burnt.settled w' := by
  obtain ⟨ok, bl, ⟨sv, lv, h⟩, hl⟩ := h
  have hm := may_at ok bl h hl
  rw [show decide (s.lets ≠ 0) = true by simpa using hl0] at hm
  have H := Lib.hid (And.intro ok (And.intro bl (And.intro h hl)))
  clear ok bl h hl hl0
  go_enter Tryz.func77, Tryz.ntmps77
  go_wp2_with fail
  refine hm.mono ?_
  rintro e w1 ⟨rfl, h1, hg1, hs1⟩
  have hl1 : ∀ x, F x → x < w1.heap.size := fun x hx => by have := H.out.2.2.2 x hx; omega
  have C := rsync_at H.out.1.burnt h1 hl1
  have HG := Lib.hid (And.intro hg1 hs1)
  clear hm hg1 hs1 hl1
  go_wp2_with fail
  refine C.mono ?_
  rintro e w2 ⟨rfl, h2, hb2, hs2⟩
  clear C
  go_wp2
  go_ret
  refine ⟨rfl, F, ⟨H.out.1.burnt.settled, H.out.2.1.burnt.settled, ⟨sv, _, h2⟩, fun x hx => ?_⟩, ?_, fun x hx => .inl hx⟩
  · have := H.out.2.2.2 x hx
    have := HG.out.2
    omega
  · exact ((But.refl F w).grown HG.out.1 (fun k e _ => by cases e; exact H.out.2.2.1.fg)).trans hb2

set_option maxRecDepth 100000 in
set_option maxHeartbeats 1000000 in
theorem rsync_blow {w : World} {g : Nat} {F : Nat → Prop} {s : St} (hl0 : s.lets = 0) (h : RDisk w g F s) :
    Calls Tryz.prog 77 #[.pointer (some ⟨g, 0, none⟩)] w fun e w' => e = .returned (.int .i64 9) ∧ RActed w g F s.burnt w' := by
  obtain ⟨ok, bl, ⟨sv, lv, h⟩, hl⟩ := h
  have hm := may_at ok bl h hl
  rw [show decide (s.lets ≠ 0) = false by simpa using hl0] at hm
  have H := Lib.hid (And.intro ok (And.intro bl hl))
  clear ok bl h hl hl0
  go_enter Tryz.func77, Tryz.ntmps77
  go_wp2_with fail
  refine hm.mono ?_
  rintro e w1 ⟨rfl, h1, hg1, hs1⟩
  go_wp2
  go_ret
  exact ⟨rfl, racted_head H.out.1.burnt H.out.2.1.burnt h1 H.out.2.2 hg1⟩

end Go.Proofs.YthbgcijkpincfaaGreatDoor

/-
  The document's own disk (almonerref05): New.
-/
namespace Go.Proofs.YthbgcijkpincfaaGreatDoor
open Go.RowKit

set_option maxRecDepth 100000 in
set_option maxHeartbeats 1000000 in
theorem rnew_no (w : World) (z : Int) (h : ¬ (1 ≤ z ∧ z ≤ 4096)) :
    Calls Tryz.prog 8 #[.int .i64 z] w fun e w' => e = .returned (.tuple #[.pointer none, .int .i64 1]) ∧ w = w' := by
  by_cases h1 : z < 1
  · have h2 : decide (z < 1) = true := by simp; omega
    go_enter Tryz.func8, Tryz.ntmps8
    go_wp2
    go_ret2
    exact ⟨rfl, rfl⟩
  · have h2 : decide (z < 1) = false := by simp; omega
    have h3 : decide (4096 < z) = true := by simp; omega
    have h4 : 4096 < z := by omega
    go_enter Tryz.func8, Tryz.ntmps8
    go_wp2
    go_ret2
    exact ⟨rfl, rfl⟩

/-- A disk of the document's in new memory. -/
def RMade (w : World) (s : St) (g : Nat) (w' : World) : Prop := RDisk w' g (fun x => w.heap.size ≤ x ∧ x < w'.heap.size) s ∧ Below w.heap.size w w'

theorem infoBs2 : (Tryz.prog.info? 50).map (fun i => (i.zero, i.size, i.bytes)) = some (some (.slice none 0 0), 1, 24) := by kernel_rfl

/-- A slice of 64 bytes that is block b. -/
def sl (b : Nat) : Value := .slice (some ⟨b, 0, none⟩) 64 64

/-- j sectors are laid down, each in a block of its own. -/
structure NewAt (w wr : World) (j : Nat) (sv : Value) (bl : List Nat) : Prop where
  head : wr.heap[w.heap.size]? = some (.cells #[sv, .slice none 0 0, .int .i64 (-1), .bool false] 117 (0, 0))
  row : wr.ownsRow w.heap.size 50 1 sv j (bl.map sl)
  dsecs : ∀ (i b : Nat), bl[i]? = some b → BArr wr b 5 (List.replicate 64 0) ∧ w.heap.size ≤ b
  apart : ∀ (i k b : Nat), bl[i]? = some b → bl[k]? = some b → i = k
  below : Below w.heap.size w wr

theorem NewAt.drew {w wr : World} {j : Nat} {sv : Value} {bl : List Nat} (h : NewAt w wr j sv bl) : NewAt w wr.drew j sv bl :=
  ⟨h.head, own_block h.row (fun _ _ => rfl), fun i b hb => h.dsecs i b hb, h.apart, ⟨h.below.os, h.below.tape, h.below.output, h.below.size, h.below.block⟩⟩
theorem NewAt.ne {w wr : World} {j : Nat} {sv : Value} {bl : List Nat} (h : NewAt w wr j sv bl) : sv.ownBlock ≠ some w.heap.size := fun e => by
  obtain ⟨cur, hc⟩ := own_type h.row e
  exact block_ne h.head hc rt1 rfl
theorem NewAt.step {w wr w3 : World} {j gg cap : Nat} {sv : Value} {bl : List Nat} {o : Obj} (h : NewAt w wr j sv bl)
    (hg : ((wr.alloc (.cells nought64.toArray 5)).alloc o).grownBy w3 sv.ownBlock)
    (hown : w3.ownsRow w.heap.size 50 1 (.slice (some ⟨gg, 0, none⟩) (j + 1) cap) (j + 1) (bl.map sl ++ [.slice (some ⟨wr.heap.size, 0, none⟩) 64 64])) :
    NewAt w (w3.setCell ⟨w.heap.size, 0, none⟩ (.slice (some ⟨gg, 0, none⟩) (j + 1) cap)) (j + 1) (.slice (some ⟨gg, 0, none⟩) (j + 1) cap) (bl ++ [wr.heap.size]) := by
  have gl : w.heap.size < wr.heap.size := (Array.getElem?_eq_some_iff.1 h.head).1
  have hold : ∀ x, x < wr.heap.size → sv.ownBlock ≠ some x → w3.heap[x]? = wr.heap[x]? := fun x hx hne =>
    (hg.block x (by simp; omega) (fun e => hne e.symm)).trans ((heap_alloc_old _ o (by simp; omega)).trans (heap_alloc_old wr _ hx))
  have hnew : w3.heap[wr.heap.size]? = some (.cells nought64.toArray 5 (0, 0)) :=
    (hg.block _ (by simp; omega) (fun e => by have := own_lt h.row e.symm; omega)).trans ((heap_alloc_old _ o (by simp)).trans (World.alloc_heap_new wr _))
  have hg3 := (hold _ gl h.ne).trans h.head
  have h4 : ∀ x, x ≠ w.heap.size → (w3.setCell ⟨w.heap.size, 0, none⟩ (.slice (some ⟨gg, 0, none⟩) (j + 1) cap)).heap[x]? = w3.heap[x]? := fun x hx => heap_setCell_other w3 ⟨w.heap.size, 0, none⟩ x _ hx
  have gne : gg ≠ w.heap.size := fun e => by
    obtain ⟨cur, hc⟩ := own_type hown rfl
    rw [e] at hc
    exact block_ne hg3 hc rt1 rfl
  have hmem : ∀ (i b : Nat), bl[i]? = some b → b < wr.heap.size := fun i b hb => (h.dsecs i b hb).1.lt
  have hsnoc : ∀ (i b : Nat), (bl ++ [wr.heap.size])[i]? = some b → (i < bl.length ∧ bl[i]? = some b) ∨ (i = bl.length ∧ b = wr.heap.size) := fun i b hb => by
    by_cases hi : i < bl.length
    · rw [List.getElem?_append_left hi] at hb
      exact .inl ⟨hi, hb⟩
    · rw [List.getElem?_append_right (by omega)] at hb
      have h0 : i - bl.length = 0 := by have := (List.getElem?_eq_some_iff.1 hb).1; simp at this; omega
      rw [h0] at hb
      cases hb
      exact .inr ⟨by omega, rfl⟩
  refine ⟨heap_setCell_same w3 w.heap.size 0 _ _ _ hg3, ?_, fun i b hv => ?_, fun i k b hi hk => ?_, ?_⟩
  · rw [List.map_append]
    exact own_block hown (fun b e => by cases e; exact h4 _ gne)
  · rcases hsnoc i b hv with ⟨_, hb⟩ | ⟨_, rfl⟩
    · obtain ⟨hB, hle⟩ := h.dsecs i b hb
      refine ⟨?_, hle⟩
      have hb : b ≠ w.heap.size := (block_ne h.head hB rt3).symm
      exact ((h4 b hb).trans (hold b hB.lt (fun e => by
        obtain ⟨cur', hc'⟩ := own_type h.row e
        exact block_ne hc' hB rt5 rfl))).trans hB
    · exact ⟨(h4 _ (by omega)).trans hnew, by omega⟩
  · rcases hsnoc i b hi with ⟨_, h5⟩ | ⟨e5, h5⟩
    · rcases hsnoc k b hk with ⟨_, h6⟩ | ⟨e6, h6⟩
      · exact h.apart i k b h5 h6
      · have := hmem i b h5; omega
    · rcases hsnoc k b hk with ⟨_, h6⟩ | ⟨e6, h6⟩
      · have := hmem k b h6; omega
      · omega
  · have b1 : Below w.heap.size w ((wr.alloc (.cells nought64.toArray 5)).alloc o) := (h.below.alloc (by omega) _).alloc (by simp; omega) o
    have b2 := b1.grown hg (by simp; omega) (fun b hb => (h.row.lt b hb).1)
    exact ⟨b2.os, b2.tape, b2.output, by rw [World.size_setCell]; exact b2.size, fun x hx => (h4 x (by omega)).trans (b2.block x hx)⟩

theorem RSec.narrow {w : World} {F F' : Nat → Prop} {v : Value} {xs : List Nat} (h : RSec w F v xs) (hF : ∀ x, F x → x < w.heap.size → F' x) : RSec w F' v xs := by
  obtain ⟨B, c, e, hin, hc, hb, cur, hcur⟩ := h
  exact ⟨B, c, e, hin, hc, hF B hb (Array.getElem?_eq_some_iff.1 hcur).1, cur, hcur⟩
theorem NewAt.made {w wr : World} {n : Nat} {sv : Value} {bl : List Nat} (h : NewAt w wr n sv bl) (h0 : 0 < n) (h1 : n ≤ 4096) : RMade w (fresh (zeros n)) w.heap.size wr := by
  have gl : w.heap.size < wr.heap.size := (Array.getElem?_eq_some_iff.1 h.head).1
  refine ⟨⟨fresh_ok (zeros_sec n) (by rw [zeros_length]; exact h0) (by rw [zeros_length]; exact h1), (fun e => by cases e), ⟨sv, .slice none 0 0, ⟨h.head, ⟨bl.map sl, ?_, fun i v xs hi hx => ?_⟩, ⟨[], ⟨rfl, .inl ⟨rfl, rfl⟩⟩, rfl, fun i x e hi => by cases hi⟩, ⟨Nat.le_refl _, gl⟩, fun b e => ⟨(h.row.lt b e).1, own_lt h.row e⟩, fun b e => by cases e⟩⟩, fun x hx => hx.2⟩, h.below⟩
  · show wr.ownsRow 0 _ 1 sv (zeros n).length (bl.map sl)
    rw [zeros_length]
    exact own_base h.row
  · have hx' : (zeros n)[i]? = some xs := hx
    have : xs = List.replicate 64 0 := List.eq_of_mem_replicate (List.mem_of_getElem? hx')
    rw [this]
    rw [List.getElem?_map] at hi
    obtain ⟨b, hb, rfl⟩ := Option.map_eq_some_iff.1 hi
    obtain ⟨hB, hle⟩ := h.dsecs i b hb
    exact bsec hB (by simp) ⟨hle, hB.lt⟩

set_option maxRecDepth 100000 in
set_option maxHeartbeats 2000000 in
theorem rnew_at (w : World) (n : Nat) (h0 : 0 < n) (h1 : n ≤ 4096) :
    Calls Tryz.prog 8 #[.int .i64 (n : Int)] w fun e w' => e = .returned (.tuple #[.pointer (some ⟨w.heap.size, 0, none⟩), .int .i64 0]) ∧ ∃ sv bl, NewAt w w' n sv bl := by
  have h2 : decide ((n : Int) < 1) = false := by simp; omega
  have h3 : decide (4096 < (n : Int)) = false := by simp; omega
  have H0 := Lib.hid (And.intro h0 h1)
  clear h0 h1
  go_enter Tryz.func8, Tryz.ntmps8
  go_wp2
  go_loopw [5] (fun i wr => ∃ (j : Nat) (sv : Value) (bl : List Nat), j ≤ n ∧ i = .int .i64 (j : Int) ∧ Hid (NewAt w wr j sv bl)) (fun i _ => n - (intOf i).toNat)
  case atStart => exact ⟨0, .slice none 0 0, [], Nat.zero_le _, rfl, Lib.hid ⟨World.alloc_heap_new w _, ⟨rfl, .inl ⟨rfl, rfl⟩⟩, (fun i b h => by simp at h), (fun i k b h => by simp at h), below_alloc w _⟩⟩
  case round =>
    obtain ⟨j, sv, bl, hj, rfl, hrel⟩ := hrel
    have c0 : wr.cell? ⟨w.heap.size, 0, none⟩ = some sv := by rw [cell_of_row _ _ 0 _ _ (0, 0) hrel.out.head]; rfl
    by_cases hlt : j < n
    · have hji : (j : Int) < (n : Int) := by omega
      obtain ⟨i0, hi, hz0, hz1, hz2⟩ := info_parts infoBs2
      have hmk : ∀ W, (Instr.makeSlice 50 (.int .i64 64) (.int .i64 64)).run Tryz.prog W = .ok (.slice (some ⟨W.heap.size, 0, none⟩) 64 64) (W.alloc (.cells nought64.toArray 5)) := fun W => by
        have := make_bytes 64 64 (Nat.le_refl _) (by omega) W
        rw [nought64_made] at this
        exact this
      have hn := H0.out.2
      obtain ⟨A, c, rfl, _⟩ := row_form hrel.out.row
      have hrd := hrel.out.drew
      have hds : wr.drew.heap.size = wr.heap.size := rfl
      have c0a : (wr.alloc (.cells nought64.toArray 5)).cell? ⟨w.heap.size, 0, none⟩ = some (.slice A j c) := (World.cell?_of_block (heap_alloc_old wr _ (Array.getElem?_eq_some_iff.1 hrel.out.head).1)).trans c0
      have c0b : ((wr.alloc (.cells nought64.toArray 5)).alloc (.cells #[.slice (some ⟨wr.heap.size, 0, none⟩) 64 64] 50)).cell? ⟨w.heap.size, 0, none⟩ = some (.slice A j c) := (World.cell?_of_block (heap_alloc_old _ _ (by have := (Array.getElem?_eq_some_iff.1 hrel.out.head).1; simp; omega))).trans c0a
      have hcl : ∀ o w3, ((wr.drew.alloc (.cells nought64.toArray 5)).alloc o).grownBy w3 (Value.slice A j c).ownBlock → w3.cell? ⟨w.heap.size, 0, none⟩ = some (.slice A j c) ∧ w3.frozen? ⟨w.heap.size, 0, none⟩ = false := fun o w3 hg => by
        have gl : w.heap.size < wr.drew.heap.size := (Array.getElem?_eq_some_iff.1 hrd.head).1
        have hb : w3.heap[w.heap.size]? = wr.drew.heap[w.heap.size]? := (hg.block _ (by rw [World.size_alloc, World.size_alloc]; omega) (fun e => hrd.ne e.symm)).trans ((heap_alloc_old _ o (by rw [World.size_alloc]; omega)).trans (heap_alloc_old wr.drew _ gl))
        exact ⟨(World.cell?_of_block hb).trans c0, frozen_of_row _ _ 0 _ _ (hb.trans hrd.head)⟩
      have hownA : ∀ o, ((wr.drew.alloc (.cells nought64.toArray 5)).alloc o).ownsRow w.heap.size 50 1 (.slice A j c) j (bl.map sl) := fun o =>
        own_block hrd.row (fun b hb => by
          have := own_lt hrd.row hb
          exact (heap_alloc_old _ o (by rw [World.size_alloc]; omega)).trans (heap_alloc_old wr.drew _ this))
      have hbs : w.heap.size ≤ wr.drew.heap.size := hrd.below.size
      have HC := Lib.hid (And.intro hcl (And.intro hownA hrd))
      clear hcl hownA hrd
      go_wp2
      go_region_law ((refine step_append_lies _ (by rfl) _ _ _ (by rfl) w.heap.size 50 i0 _ 1 24 Tryz.underlying69 hi hz0 hz1 hz2 (by rfl) (by decide) _ j (bl.map sl) (by rfl) (HC.out.2.1 _) ⟨wr.drew.heap.size + 1, 0, none⟩ 1 1 [.slice (some ⟨wr.drew.heap.size, 0, none⟩) 64 64] (by simp [Act.eval]) (by rfl) (World.news_of_block (cs := #[.slice (some ⟨wr.drew.heap.size, 0, none⟩) 64 64]) (t := 50) (fr := (0, 0)) (by have := World.alloc_heap_new (wr.drew.alloc (.cells nought64.toArray 5)) (.cells #[.slice (some ⟨wr.drew.heap.size, 0, none⟩) 64 64] 50); rw [World.size_alloc] at this; exact this)) (by simp [Value.oneCell']) (by decide) (by unfold maxLen; omega) (by omega) (by show w.heap.size ≤ ((wr.drew.alloc _).alloc _).heap.size; rw [World.size_alloc, World.size_alloc]; omega) _ rfl ?_; intro gg cap w3 hown hgrow hat hlt2; obtain ⟨c3, f3⟩ := HC.out.1 _ w3 hgrow))
      all_goals
        have HN := Lib.hid (HC.out.2.2.step hgrow hown)
        clear hown hgrow hat
        go_wp2
        go_roundw
        case rel => exact ⟨j + 1, _, _, by omega, by go_num, HN⟩
        case measure => simp [intOf]; omega
    · obtain rfl : j = n := by omega
      have hji : decide ((j : Int) < (j : Int)) = false := by simp
      go_wp2
      go_ret2
      exact ⟨rfl, sv, bl, hrel.out⟩

theorem rnew_yes (w : World) (n : Nat) (h0 : 0 < n) (h1 : n ≤ 4096) :
    Calls Tryz.prog 8 #[.int .i64 (n : Int)] w fun e w' => ∃ g, e = .returned (.tuple #[.pointer (some ⟨g, 0, none⟩), .int .i64 0]) ∧ RMade w (fresh (zeros n)) g w' := by
  refine (rnew_at w n h0 h1).mono ?_
  rintro e w' ⟨rfl, sv, bl, h⟩
  exact ⟨_, rfl, h.made h0 h1⟩

end Go.Proofs.YthbgcijkpincfaaGreatDoor

/-
  The document's own disk (almonerref05): Fail.
-/
namespace Go.Proofs.YthbgcijkpincfaaGreatDoor
open Go.RowKit

/-- The new disk, the sectors R in it. -/
structure MadeAt (w wr : World) (n : Nat) (sv : Value) (bl : List Nat) (R : List (List Nat)) : Prop where
  head : wr.heap[w.heap.size]? = some (.cells #[sv, .slice none 0 0, .int .i64 (-1), .bool false] 117 (0, 0))
  row : wr.ownsRow w.heap.size 50 1 sv n (bl.map sl)
  len : R.length = n
  dsecs : ∀ (i b : Nat) (xs : List Nat), bl[i]? = some b → R[i]? = some xs → BArr wr b 5 xs ∧ w.heap.size ≤ b
  apart : ∀ (i k b : Nat), bl[i]? = some b → bl[k]? = some b → i = k
  below : Below w.heap.size w wr

theorem NewAt.nought {w wr : World} {n : Nat} {sv : Value} {bl : List Nat} (h : NewAt w wr n sv bl) : MadeAt w wr n sv bl (zeros n) :=
  ⟨h.head, h.row, zeros_length n, fun i b xs hb hx => by
    have : xs = List.replicate 64 0 := List.eq_of_mem_replicate (List.mem_of_getElem? hx)
    rw [this]
    exact h.dsecs i b hb, h.apart, h.below⟩
theorem MadeAt.drew {w wr : World} {n : Nat} {sv : Value} {bl : List Nat} {R : List (List Nat)} (h : MadeAt w wr n sv bl R) : MadeAt w wr.drew n sv bl R :=
  ⟨h.head, own_block h.row (fun _ _ => rfl), h.len, fun i b xs hb hx => h.dsecs i b xs hb hx, h.apart, ⟨h.below.os, h.below.tape, h.below.output, h.below.size, h.below.block⟩⟩
theorem MadeAt.bl_len {w wr : World} {n : Nat} {sv : Value} {bl : List Nat} {R : List (List Nat)} (h : MadeAt w wr n sv bl R) : bl.length = n := by
  have := h.row.1
  rw [List.length_map] at this
  omega
theorem MadeAt.set {w wr : World} {n k b : Nat} {sv : Value} {bl : List Nat} {R : List (List Nat)} {xs : List Nat} (h : MadeAt w wr n sv bl R) (hb : bl[k]? = some b) :
    MadeAt w (wr.setRow b (bvs xs).toArray) n sv bl (R.set k xs) := by
  have hk : k < n := by rw [← h.bl_len]; exact (List.getElem?_eq_some_iff.1 hb).1
  obtain ⟨ys, hy⟩ : ∃ ys, R[k]? = some ys := ⟨_, List.getElem?_eq_getElem (by rw [h.len]; exact hk)⟩
  obtain ⟨hB, hle⟩ := h.dsecs k b ys hb hy
  have hne : w.heap.size ≠ b := block_ne h.head hB rt3
  refine ⟨(setRow_other wr b _ _ hne).trans h.head, own_block h.row (fun x e => setRow_other wr b x _ (fun e2 => ?_)), by rw [List.length_set]; exact h.len, fun i c zs hi hz => ?_, h.apart, below_setRow h.below hle _⟩
  · obtain ⟨cur, hc⟩ := own_type h.row e
    exact block_ne hc hB rt5 e2
  · by_cases e : i = k
    · subst e
      rw [hb] at hi
      cases hi
      rw [List.getElem?_set_self (by rw [h.len]; exact hk)] at hz
      cases hz
      exact ⟨hB.setRow _, hle⟩
    · rw [List.getElem?_set_ne (Ne.symm e)] at hz
      obtain ⟨hC, hlc⟩ := h.dsecs i c zs hi hz
      exact ⟨hC.setRow_other b (fun e2 => e (h.apart i k b (e2 ▸ hi) hb)) _, hlc⟩
theorem MadeAt.made {w wr : World} {n : Nat} {sv : Value} {bl : List Nat} {R : List (List Nat)} (h : MadeAt w wr n sv bl R) (hR : ∀ x ∈ R, Sec x) (h0 : 0 < n) (h1 : n ≤ 4096) : RMade w (fresh R) w.heap.size wr := by
  have gl : w.heap.size < wr.heap.size := (Array.getElem?_eq_some_iff.1 h.head).1
  refine ⟨⟨fresh_ok hR (by rw [h.len]; exact h0) (by rw [h.len]; exact h1), (fun e => by cases e), ⟨sv, .slice none 0 0, ⟨h.head, ⟨bl.map sl, ?_, fun i v xs hi hx => ?_⟩, ⟨[], ⟨rfl, .inl ⟨rfl, rfl⟩⟩, rfl, fun i x e hi => by cases hi⟩, ⟨Nat.le_refl _, gl⟩, fun b e => ⟨(h.row.lt b e).1, own_lt h.row e⟩, fun b e => by cases e⟩⟩, fun x hx => hx.2⟩, h.below⟩
  · show wr.ownsRow 0 _ 1 sv R.length (bl.map sl)
    rw [h.len]
    exact own_base h.row
  · have hx' : R[i]? = some xs := hx
    rw [List.getElem?_map] at hi
    obtain ⟨b, hb, rfl⟩ := Option.map_eq_some_iff.1 hi
    obtain ⟨hB, hle⟩ := h.dsecs i b xs hb hx'
    exact bsec hB (hR xs (List.mem_of_getElem? hx')).1 ⟨hle, hB.lt⟩

/-- The copy of a sector into a block. -/
theorem wpList_copy_sec {ops : Array Oper} {rest : List Oper} {o : Oper} {a : Act} {Q : Exit → Act → World → Prop} {w : World} (hgd : o.guard = none) (d s : Operand)
    (ho : o.op = .call { callee := .builtin .copy, args := #[d, s], argTypes := #[50, 50] }) {b c : Nat} {ad : Addr} {old xs : List Nat} (hb : BArr w b 5 old) (hol : old.length = 64)
    (hin : In w (some ad) 64 xs) (hd : a.eval d = sl b) (hs : a.eval s = .slice (some ad) 64 c)
    (h : wpList Tryz.prog ops Q rest (a.put o.dst (.int .i64 64)) (w.setRow b (bvs xs).toArray)) : wpList Tryz.prog ops Q (o :: rest) a w := by
  have hl : (bvs xs).length = 64 := by rw [bvs_length, hin.len]
  refine wpList_copy_own hgd d s 50 50 ho 5 Tryz.underlying50 sizeByte b 0 64 64 ad 64 c hd hs (bvs old).toArray 5 hb (bvs xs) hl (fun j v hv => ?_) (by rw [hl, List.size_toArray, bvs_length, hol]; exact Nat.le_refl _) (bvs_oneCell xs) ?_
  · rw [bvs_get] at hv
    obtain ⟨x, hx, rfl⟩ := Option.map_eq_some_iff.1 hv
    obtain ⟨ad', e, hc⟩ := hin.rd j x hx
    cases e
    exact hc
  · rw [hl]
    have e : ((bvs old).toArray.toList.take 0 ++ (bvs xs ++ (bvs old).toArray.toList.drop (0 + 64))) = bvs xs := by
      rw [List.take_zero, List.nil_append, List.drop_eq_nil_of_le (by simp [bvs_length, hol]), List.append_nil]
    rw [e]
    exact h

theorem laid_set {A B : List (List Nat)} {j : Nat} {x : List Nat} (hx : A[j]? = some x) (hl : B.length = A.length) : (A.take j ++ B.drop j).set j x = A.take (j + 1) ++ B.drop (j + 1) := by
  have hj := (List.getElem?_eq_some_iff.1 hx).1
  have h1 : (A.take j).length = j := by rw [List.length_take]; omega
  rw [List.set_append_right _ _ (by omega), h1, Nat.sub_self, List.take_add_one, hx, List.drop_eq_getElem_cons (by omega : j < B.length), List.set_cons_zero, List.append_assoc]
  rfl
theorem pick_same {ws : List (Nat × List Nat)} {ks : List Bool} {j : Nat} (h : ks.length ≤ j) : pick ws ks (j + 1) = pick ws ks j := by
  have : (ws.zip ks).length ≤ j := by rw [List.length_zip]; omega
  rw [pick, pick, List.take_of_length_le (by omega), List.take_of_length_le this]
theorem pick_all (ws : List (Nat × List Nat)) (ks : List Bool) : pick ws ks ws.length = kept ws ks := by
  have h1 : (ws.zip ks).length ≤ ws.length := by rw [List.length_zip]; omega
  have h2 : (ws.zip ks).length ≤ min ws.length ks.length := by rw [List.length_zip]; omega
  rw [kept, pick, pick, List.take_of_length_le h1, List.take_of_length_le h2]

set_option maxRecDepth 100000 in
set_option maxHeartbeats 2000000 in
theorem rfail_any {w : World} {g : Nat} {F : Nat → Prop} {s : St} (A : Option Addr) (n c : Nat) (ks : List Bool) (hk : InB w A n ks) (h : RDisk w g F s) :
    Calls Tryz.prog 17 #[.pointer (some ⟨g, 0, none⟩), .slice A n c] w fun e w' => ∃ g', e = .returned (.pointer (some ⟨g', 0, none⟩)) ∧ RMade w (fresh (settle s.sure (kept s.waits ks))) g' w' := by
  obtain ⟨ok, _, ⟨sv0, lv, h⟩, hl⟩ := h
  obtain ⟨vals, hrow, hsec⟩ := h.sure
  obtain ⟨E, hrowL, hEl, hEs⟩ := h.l
  obtain ⟨A0, cc, rfl, hnc, hA, hcm⟩ := row_form hrow
  obtain ⟨AL, cL, rfl, hncL, hAL, hcmL⟩ := row_form hrowL
  obtain ⟨B, rfl⟩ := hA ok.pos
  obtain ⟨N, hN⟩ : ∃ N, s.sure.length = N := ⟨_, rfl⟩
  obtain ⟨m, hm⟩ : ∃ m, s.waits.length = m := ⟨_, rfl⟩
  have hE2 : ∀ e ∈ E, e.length = 2 := wait_len (by omega) hEs
  rw [hm] at hrowL hncL hAL h hEl
  rw [hN] at hrow hnc h
  have C := rnew_at w N (by rw [← hN]; exact ok.pos) (by rw [← hN]; exact ok.le)
  have c0 := h.c0
  have c1 := h.c1
  have nm : N ≤ 9223372036854775807 := by omega
  have mm : m ≤ 9223372036854775807 := by omega
  have H := Lib.hid (And.intro h (And.intro ok (And.intro hsec (And.intro hrowL (And.intro hEl (And.intro hEs (And.intro hm (And.intro hN (And.intro hncL (And.intro hAL (And.intro hrow (And.intro hl (And.intro hnc (And.intro hE2 hk))))))))))))))
  clear h ok hsec hrowL hEl hEs hm hN hncL hAL hl hrow hnc hcmL hcm hk hE2
  go_enter Tryz.func17, Tryz.ntmps17
  go_wp2_with fail
  refine C.mono ?_
  rintro e w1 ⟨rfl, sv, bl, hnew⟩
  obtain ⟨AN, cN, rfl, hncN, hAN, hcmN⟩ := row_form hnew.row
  obtain ⟨G, rfl⟩ := hAN (by have := H.out.2.1.pos; have := H.out.2.2.2.2.2.2.2.1; omega)
  have HM := Lib.hid hnew
  clear hnew C
  go_wp2
  go_loopw [7] (fun i wr => ∃ j : Nat, j ≤ N ∧ i = .int .i64 (j : Int) ∧ Hid (MadeAt w wr N (.slice (some ⟨G, 0, none⟩) N cN) bl (s.sure.take j ++ (zeros N).drop j))) (fun i _ => N - (intOf i).toNat)
  case atStart => exact ⟨0, Nat.zero_le _, rfl, Lib.hid (by simpa using HM.out.nought)⟩
  case round =>
    obtain ⟨j, hj, rfl, hrel⟩ := hrel
    have hb := hrel.out.below
    have k0 : wr.cell? ⟨g, 0, none⟩ = some (.slice (some ⟨B, 0, none⟩) N cc) := (hb.cell (World.block_lt_of_cell? w _ c0)).trans c0
    by_cases hlt : j < N
    · have hji : (j : Int) < (N : Int) := by omega
      obtain ⟨v, hv⟩ : ∃ v, vals[j]? = some v := ⟨_, List.getElem?_eq_getElem (by rw [H.out.2.2.2.2.2.2.2.2.2.2.1.1]; omega)⟩
      obtain ⟨xs, hx⟩ : ∃ xs, s.sure[j]? = some xs := ⟨_, List.getElem?_eq_getElem (by rw [H.out.2.2.2.2.2.2.2.1]; exact hlt)⟩
      obtain ⟨Bj, cj, rfl, hin, hcj, hFj, _⟩ := H.out.2.2.1 j v xs hv hx
      have cv0 : w.cell? ⟨B, j, none⟩ = some (.slice (some ⟨Bj, 0, none⟩) 64 cj) := (H.out.2.2.2.2.2.2.2.2.2.2.1.cellAt j (by omega)).trans hv
      have cv : wr.cell? ⟨B, j, none⟩ = some (.slice (some ⟨Bj, 0, none⟩) 64 cj) := (hb.cell (World.block_lt_of_cell? w _ cv0)).trans cv0
      obtain ⟨b, hbj⟩ : ∃ b, bl[j]? = some b := ⟨_, List.getElem?_eq_getElem (by rw [hrel.out.bl_len]; exact hlt)⟩
      have n0 : wr.cell? ⟨w.heap.size, 0, none⟩ = some (.slice (some ⟨G, 0, none⟩) N cN) := by rw [cell_of_row _ _ 0 _ _ (0, 0) hrel.out.head]; rfl
      have n1 : wr.cell? ⟨G, j, none⟩ = some (.slice (some ⟨b, 0, none⟩) 64 64) := by
        rw [hrel.out.row.cellAt j (by omega), List.getElem?_map, hbj]
        rfl
      have hinr : In wr (some ⟨Bj, 0, none⟩) 64 xs := hin.below hb
      have hlr : (s.sure.take j ++ (zeros N).drop j).length = N := hrel.out.len
      obtain ⟨old, hold⟩ : ∃ old, (s.sure.take j ++ (zeros N).drop j)[j]? = some old := ⟨_, List.getElem?_eq_getElem (by rw [hlr]; exact hlt)⟩
      have hob := (hrel.out.dsecs j b old hbj hold).1
      have hsl : old.length = 64 := by
        rcases List.mem_append.1 (List.mem_of_getElem? hold) with h | h
        · exact (H.out.2.1.sec _ (List.mem_of_mem_take h)).1
        · rw [List.eq_of_mem_replicate (List.mem_of_mem_drop h)]; rfl
      have HX := Lib.hid (And.intro hx (And.intro hbj (And.intro hinr (And.intro hob hsl))))
      clear hv hin hcj hFj hx hbj hinr hob hsl hold hlr cv0 hb
      go_wp2
      go_still_tail 14, (by kernel_rfl)
      refine wpList_copy_sec (w := wr.drew) rfl (.tmp 33) (.tmp 40) rfl HX.out.2.2.2.1.drew HX.out.2.2.2.2 ⟨HX.out.2.2.1.len, HX.out.2.2.1.rd⟩ rfl rfl ?_
      have HN := Lib.hid (hrel.out.drew.set HX.out.2.1 (xs := xs))
      rw [laid_set HX.out.1 (by rw [zeros_length, H.out.2.2.2.2.2.2.2.1])] at HN
      go_wp2
      go_roundw
      case rel => exact ⟨j + 1, by omega, by go_num, HN⟩
      case measure => simp [intOf]; omega
    · obtain rfl : j = N := by omega
      have hji : decide ((j : Int) < (j : Int)) = false := by simp
      have hfull : s.sure.take j ++ (zeros j).drop j = s.sure := by
        rw [List.take_of_length_le (by rw [H.out.2.2.2.2.2.2.2.1]; exact Nat.le_refl _), List.drop_eq_nil_of_le (by rw [zeros_length]; exact Nat.le_refl _), List.append_nil]
      have HM1 : Hid (MadeAt w wr j (.slice (some ⟨G, 0, none⟩) j cN) bl s.sure) := Lib.hid (by have := hrel.out; rwa [hfull] at this)
      clear hrel hfull hb
      go_wp2
      go_loopw [8] (fun i wr => ∃ q : Nat, q ≤ m ∧ i = .int .i64 (q : Int) ∧ Hid (MadeAt w wr j (.slice (some ⟨G, 0, none⟩) j cN) bl (settle s.sure (pick s.waits ks q)))) (fun i _ => m - (intOf i).toNat)
      case atStart => exact ⟨0, Nat.zero_le _, rfl, Lib.hid (by simpa [pick, settle] using HM1.out)⟩
      case round =>
        obtain ⟨q, hq, rfl, hrel⟩ := hrel
        have hb := hrel.out.below
        have k1 : wr.cell? ⟨g, 1, none⟩ = some (.slice AL m cL) := (hb.cell (World.block_lt_of_cell? w _ c1)).trans c1
        by_cases hqm : q < m
        · have hqi : (q : Int) < (m : Int) := by omega
          by_cases hqn : q < n
          · have hqni : (q : Int) < (n : Int) := by omega
            obtain ⟨gl, rfl⟩ := H.out.2.2.2.2.2.2.2.2.2.1 (by omega)
            obtain ⟨kb, hkb⟩ : ∃ kb, ks[q]? = some kb := ⟨_, List.getElem?_eq_getElem (by rw [H.out.2.2.2.2.2.2.2.2.2.2.2.2.2.2.len]; exact hqn)⟩
            obtain ⟨ad, rfl, hkc0⟩ := H.out.2.2.2.2.2.2.2.2.2.2.2.2.2.2.rd q kb hkb
            have hkc : wr.cell? (ad.add q) = some (.bool kb) := (hb.cell (World.block_lt_of_cell? w _ hkc0)).trans hkc0
            obtain ⟨x, hx⟩ : ∃ x, s.waits[q]? = some x := ⟨_, List.getElem?_eq_getElem (by rw [H.out.2.2.2.2.2.2.1]; exact hqm)⟩
            have hstep := pick_step hx hkb
            cases kb
            · have HS := Lib.hid hstep
              clear hstep hkb hkc0 hx hb
              go_wp2
              go_roundw
              case rel => exact ⟨q + 1, by omega, by go_num, Lib.hid (by rw [HS.out]; simpa using hrel.out)⟩
              case measure => simp [intOf]; omega
            · obtain ⟨e, he⟩ : ∃ e, E[q]? = some e := ⟨_, List.getElem?_eq_getElem (by rw [H.out.2.2.2.2.1]; exact hqm)⟩
              obtain ⟨v, hev, hsv⟩ := H.out.2.2.2.2.2.1 q x e hx he
              have hlen2 := H.out.2.2.2.2.2.2.2.2.2.2.2.2.2.1
              have d00 : w.cell? ⟨gl, q * 2, none⟩ = some (.int .i64 (x.1 : Int)) := by
                have := chunk_get hlen2 he (j := 0) (by omega)
                rw [(H.out.2.2.2.1.cellAt (q * 2) (by omega))]
                rw [hev] at this
                exact this
              have d10 : w.cell? ⟨gl, q * 2 + 1, none⟩ = some v := by
                have := chunk_get hlen2 he (j := 1) (by omega)
                rw [(H.out.2.2.2.1.cellAt (q * 2 + 1) (by omega))]
                rw [hev] at this
                exact this
              obtain ⟨Bj, cj, rfl, hin, hcj, hFj, _⟩ := hsv
              have d0 : wr.cell? ⟨gl, q * 2, none⟩ = some (.int .i64 (x.1 : Int)) := (hb.cell (World.block_lt_of_cell? w _ d00)).trans d00
              have d1 : wr.cell? ⟨gl, q * 2 + 1, none⟩ = some (.slice (some ⟨Bj, 0, none⟩) 64 cj) := (hb.cell (World.block_lt_of_cell? w _ d10)).trans d10
              have hxj : x.1 < j := by have := (H.out.2.1.wsec x (List.mem_of_getElem? hx)).1; rw [H.out.2.2.2.2.2.2.2.1] at this; exact this
              have hxi : (x.1 : Int) < (j : Int) := by omega
              obtain ⟨b, hbj⟩ : ∃ b, bl[x.1]? = some b := ⟨_, List.getElem?_eq_getElem (by rw [hrel.out.bl_len]; exact hxj)⟩
              have n0 : wr.cell? ⟨w.heap.size, 0, none⟩ = some (.slice (some ⟨G, 0, none⟩) j cN) := by rw [cell_of_row _ _ 0 _ _ (0, 0) hrel.out.head]; rfl
              have n1 : wr.cell? ⟨G, x.1, none⟩ = some (.slice (some ⟨b, 0, none⟩) 64 64) := by
                rw [hrel.out.row.cellAt x.1 (by omega), List.getElem?_map, hbj]
                rfl
              have hinr : In wr (some ⟨Bj, 0, none⟩) 64 x.2 := hin.below hb
              have hlr : (settle s.sure (pick s.waits ks q)).length = j := hrel.out.len
              obtain ⟨old, hold⟩ : ∃ old, (settle s.sure (pick s.waits ks q))[x.1]? = some old := ⟨_, List.getElem?_eq_getElem (by rw [hlr]; exact hxj)⟩
              have hob := (hrel.out.dsecs x.1 b old hbj hold).1
              have hsl : old.length = 64 := (settle_sec H.out.2.1.sec (fun z hz => (H.out.2.1.wsec z (pick_mem hz)).2) _ (List.mem_of_getElem? hold)).1
              have HX := Lib.hid (And.intro hstep (And.intro hbj (And.intro hinr (And.intro hob hsl))))
              clear hstep hkb hkc0 hx hb he hev hlen2 d00 d10 hin hcj hFj hbj hinr hob hsl hold hlr hxj
              go_wp2
              go_still_tail 22, (by kernel_rfl)
              refine wpList_copy_sec (w := wr.drew) rfl (.tmp 74) (.tmp 82) rfl HX.out.2.2.2.1.drew HX.out.2.2.2.2 ⟨HX.out.2.2.1.len, HX.out.2.2.1.rd⟩ rfl rfl ?_
              have HN := Lib.hid (hrel.out.drew.set HX.out.2.1 (xs := x.2))
              rw [← settle_snoc] at HN
              go_wp2
              go_roundw
              case rel => exact ⟨q + 1, by omega, by go_num, Lib.hid (by rw [HX.out.1]; simpa using HN.out)⟩
              case measure => simp [intOf]; omega
          · have hqni : decide ((q : Int) < (n : Int)) = false := by simp; omega
            have HS := Lib.hid (pick_same (ws := s.waits) (ks := ks) (j := q) (by rw [H.out.2.2.2.2.2.2.2.2.2.2.2.2.2.2.len]; omega))
            clear hb
            go_wp2
            go_roundw
            case rel => exact ⟨q + 1, by omega, by go_num, Lib.hid (by rw [HS.out]; exact hrel.out)⟩
            case measure => simp [intOf]; omega
        · obtain rfl : q = m := by omega
          have hqi : decide ((q : Int) < (q : Int)) = false := by simp
          have hfin : RMade w (fresh (settle s.sure (kept s.waits ks))) w.heap.size wr := by
            rw [← pick_all, H.out.2.2.2.2.2.2.1]
            exact hrel.out.made (settle_sec H.out.2.1.sec (fun z hz => (H.out.2.1.wsec z (pick_mem hz)).2)) (by have := H.out.2.1.pos; have := H.out.2.2.2.2.2.2.2.1; omega) (by have := H.out.2.1.le; have := H.out.2.2.2.2.2.2.2.1; omega)
          have HF := Lib.hid hfin
          clear hfin hb
          go_wp2
          go_ret
          exact ⟨_, rfl, HF.out⟩

end Go.Proofs.YthbgcijkpincfaaGreatDoor

/-
  The document's own disk (almonerref05): a Turn that is not done.
-/
namespace Go.Proofs.YthbgcijkpincfaaGreatDoor
open Go.RowKit

set_option maxRecDepth 100000 in
set_option maxHeartbeats 1000000 in
theorem rturn_blown {w : World} {g : Nat} {F : Nat → Prop} {s : St} {n k y : Nat} (hn : n < s.sure.length) (hk : k < 64) (hbl : s.blown = true) (h : RDisk w g F s) :
    Calls Tryz.prog 19 #[.pointer (some ⟨g, 0, none⟩), .int .i64 (n : Int), .int .i64 (k : Int), .int .u8 (y : Int)] w fun e w' => e = .returned (.int .i64 9) ∧ w = w' := by
  obtain ⟨_, _, ⟨sv, lv, h⟩, _⟩ := h
  have hni : (n : Int) < (s.sure.length : Int) := by omega
  have hki : (k : Int) < 64 := by omega
  obtain ⟨⟨A, c, rfl⟩, _⟩ := h.lens
  have c0 := h.c0
  have c3 := h.c3
  rw [hbl] at c3
  clear h hbl
  go_enter Tryz.func19, Tryz.ntmps19
  go_wp2
  go_ret
  exact ⟨rfl, rfl⟩

set_option maxRecDepth 100000 in
set_option maxHeartbeats 2000000 in
theorem rturn_bad {w : World} {g : Nat} {F : Nat → Prop} {s : St} (z t : Int) (y : Nat) (hz : ¬ (0 ≤ z ∧ z < (s.sure.length : Int) ∧ 0 ≤ t ∧ t < 64)) (h : RDisk w g F s) :
    Calls Tryz.prog 19 #[.pointer (some ⟨g, 0, none⟩), .int .i64 z, .int .i64 t, .int .u8 (y : Int)] w fun e w' => e = .returned (.int .i64 1) ∧ w = w' := by
  obtain ⟨_, _, ⟨sv, lv, h⟩, _⟩ := h
  obtain ⟨⟨A, c, rfl⟩, _⟩ := h.lens
  have c0 := h.c0
  clear h
  by_cases h1 : z < 0
  · have q : decide (z < 0) = true := by simpa using h1
    clear hz
    go_enter Tryz.func19, Tryz.ntmps19
    go_wp2
    go_ret
    exact ⟨rfl, rfl⟩
  · have q : decide (z < 0) = false := by simpa using h1
    by_cases h2 : (s.sure.length : Int) ≤ z
    · clear hz
      go_enter Tryz.func19, Tryz.ntmps19
      go_wp2
      go_ret
      exact ⟨rfl, rfl⟩
    · have q2 : decide ((s.sure.length : Int) ≤ z) = false := by simpa using h2
      by_cases h3 : t < 0
      · have q3 : decide (t < 0) = true := by simpa using h3
        clear hz
        go_enter Tryz.func19, Tryz.ntmps19
        go_wp2
        go_ret
        exact ⟨rfl, rfl⟩
      · have q3 : decide (t < 0) = false := by simpa using h3
        have h4 : 64 ≤ t := by omega
        clear hz
        go_enter Tryz.func19, Tryz.ntmps19
        go_wp2
        go_ret
        exact ⟨rfl, rfl⟩

end Go.Proofs.YthbgcijkpincfaaGreatDoor

/-
  The document's own disk (almonerref05): Turn.
-/
namespace Go.Proofs.YthbgcijkpincfaaGreatDoor
open Go.RowKit

theorem fresh_row {w : World} {base c : Nat} {A : Option Addr} {xs : List Nat} (h : w.ownsRow base 5 1 (.slice A (0 + 64) c) (0 + 64) (bvs ([] ++ xs))) (hl : xs.length = 64) :
    ∃ Bs, A = some ⟨Bs, 0, none⟩ ∧ base ≤ Bs ∧ 64 ≤ c ∧ (∃ cur, w.heap[Bs]? = some (.cells cur 5 (0, 0))) ∧ ∀ k, k < 64 → w.cell? ⟨Bs, k, none⟩ = some (.int .u8 ((xs.getD k 0 : Nat) : Int)) ∧ w.frozen? ⟨Bs, k, none⟩ = false := by
  rw [List.nil_append, Nat.zero_add] at h
  have h' := h
  rcases h'.2 with ⟨_, e⟩ | ⟨Bs, cap, cur, e, hb, hg, hc, _⟩
  · cases e
  · cases e
    refine ⟨Bs, rfl, hb, hc, ⟨cur, hg⟩, fun k hk => ⟨?_, frozen_of_row _ Bs k _ _ hg⟩⟩
    rw [h.cellAt k (by omega), bvs_get, List.getElem?_eq_getElem (by omega), List.getD_eq_getElem?_getD, List.getElem?_eq_getElem (by omega)]
    rfl

theorem own_setQ {w : World} {base g n cap size k : Nat} {e : TypeId} {xs : List Value} (u : Value) (h : w.ownsRow base e size (.slice (some ⟨g, 0, none⟩) n cap) n xs) : (w.setCell ⟨g, k, none⟩ u).ownsRow base e size (.slice (some ⟨g, 0, none⟩) n cap) n (xs.set k u) := by
  rcases h.2 with ⟨e, _⟩ | ⟨g', cap', cur, e, hb, hg, hle, hm, hs, htk⟩
  · cases e
  · cases e
    refine ⟨by rw [List.length_set]; exact h.1, .inr ⟨g, cap, cur.setIfInBounds k u, rfl, hb, heap_setCell_same w g k cur _ u hg, hle, hm, by simp [hs], ?_⟩⟩
    rw [Array.toList_setIfInBounds, List.take_set, htk]

theorem Pages.below {w w' : World} {F : Nat → Prop} {B m c : Nat} {R : List (List Nat)} (h : Pages w F B m c R) (hF : ∀ x, F x → x < w.heap.size) (hb : ∀ x, x < w.heap.size → w'.heap[x]? = w.heap[x]?) : Pages w' F B m c R := by
  obtain ⟨vals, h1, h2⟩ := h
  exact ⟨vals, own_block h1 (fun b e => hb b (own_lt h1 e)), fun i v xs hi hx => (h2 i v xs hi hx).block (fun b _ hf _ => hb b (hF b hf))⟩
theorem Pages.mono {w : World} {F F' : Nat → Prop} {B m c : Nat} {R : List (List Nat)} (h : Pages w F B m c R) (hF : ∀ x, F x → F' x) : Pages w F' B m c R := by
  obtain ⟨vals, h1, h2⟩ := h
  exact ⟨vals, h1, fun i v xs hi hx => (h2 i v xs hi hx).mono hF⟩

theorem rturn_rest {w w1 w2 : World} {g B Bs m c c' n k y x : Nat} {F : Nat → Prop} {s : St} {xs : List Nat} (ok : s.Ok) (bl : Blows s) (hl : ∀ x, F x → x < w.heap.size)
    (h1 : RAt w1 F g (.slice (some ⟨B, 0, none⟩) m c) (.slice none 0 0) s.settled) (hb1 : But F w w1) (hs1 : w1.heap.size = w.heap.size)
    (hown : w2.ownsRow w1.heap.size 5 1 (.slice (some ⟨Bs, 0, none⟩) (0 + 64) c') (0 + 64) (bvs ([] ++ xs))) (hbel : Below w1.heap.size w1 w2) (hBs : w1.heap.size ≤ Bs) (hcc : 64 ≤ c')
    (hn : n < s.sure.length) (hm : s.sure.length = m) (hx : s.read[n]? = some xs) (hxx : xs.getD k 0 = x) (hy : y < 256) :
    RActed w g F (s.turned n k y) ((w2.setCell ⟨Bs, k, none⟩ (.int .u8 ((x ^^^ y : Nat) : Int))).setCell ⟨B, n, none⟩ (.slice (some ⟨Bs, 0, none⟩) 64 c')) := by
  have hsz : ∀ v, ((w2.setCell ⟨Bs, k, none⟩ (.int .u8 ((x ^^^ y : Nat) : Int))).setCell ⟨B, n, none⟩ v).heap.size = w2.heap.size := fun v => by simp
  rw [List.nil_append, Nat.zero_add] at hown
  have h3 : ∀ z, z < w1.heap.size → (w2.setCell ⟨Bs, k, none⟩ (.int .u8 ((x ^^^ y : Nat) : Int))).heap[z]? = w1.heap[z]? := fun z hz => (heap_setCell_other w2 ⟨Bs, k, none⟩ z _ (by show z ≠ Bs; omega)).trans (hbel.block z hz)
  have hlt1 : ∀ x, F x → x < w1.heap.size := fun x hx => by have := hl x hx; omega
  have hBl : Bs < w2.heap.size := own_lt hown rfl
  have hFB : F B := h1.fs B rfl
  have hgl : g < w1.heap.size := hlt1 g h1.fg
  have hgB : g ≠ B := h1.gs rfl
  have hF' : ∀ x, F x → (F x ∨ (w.heap.size ≤ x ∧ x < w2.heap.size)) := fun x hx => .inl hx
  have hP1 : Pages w1 F B m c s.read := by
    obtain ⟨vals, e1, e2⟩ := h1.sure
    rw [show s.settled.sure.length = m from (s.read_length).trans hm] at e1
    exact ⟨vals, e1, e2⟩
  have hP3 := (hP1.below hlt1 h3).mono hF'
  have ho3 := own_setQ (k := k) (.int .u8 ((x ^^^ y : Nat) : Int)) hown
  have hbv : (bvs xs).set k (.int .u8 ((x ^^^ y : Nat) : Int)) = bvs (turnAt xs k y) := by rw [turnAt, hxx, ← bvs_set]; rfl
  rw [hbv] at ho3
  have hV : RSec (w2.setCell ⟨Bs, k, none⟩ (.int .u8 ((x ^^^ y : Nat) : Int))) (fun x => F x ∨ (w.heap.size ≤ x ∧ x < w2.heap.size)) (.slice (some ⟨Bs, 0, none⟩) 64 c') (turnAt xs k y) := by
    obtain ⟨cur, hc⟩ := own_type ho3 rfl
    exact ⟨Bs, c', rfl, In.of_own ho3, hcc, .inr ⟨by omega, hBl⟩, cur, hc⟩
  have hP4 := Pages.set (k := n) hP3 hV
  have e0 : (s.turned n k y).sure = s.read.set n (turnAt xs k y) := by
    show s.read.set n (turnAt (s.read.getD n []) k y) = _
    rw [List.getD_eq_getElem?_getD, hx]
    rfl
  have h4 : ∀ z, z ≠ B → ((w2.setCell ⟨Bs, k, none⟩ (.int .u8 ((x ^^^ y : Nat) : Int))).setCell ⟨B, n, none⟩ (.slice (some ⟨Bs, 0, none⟩) 64 c')).heap[z]? = (w2.setCell ⟨Bs, k, none⟩ (.int .u8 ((x ^^^ y : Nat) : Int))).heap[z]? := fun z hz => heap_setCell_other _ ⟨B, n, none⟩ z _ hz
  refine ⟨fun x => F x ∨ (w.heap.size ≤ x ∧ x < w2.heap.size), ⟨ok.turned hn hy, bl, ⟨_, .slice none 0 0, ⟨((h4 g hgB).trans (h3 g hgl)).trans h1.head, ?_, ⟨[], ⟨rfl, .inl ⟨rfl, rfl⟩⟩, rfl, fun i x e hi => by cases hi⟩, .inl h1.fg, fun b e => .inl (h1.fs b e), fun b e => by cases e⟩⟩, fun x hx => ?_⟩, ?_, fun x hx => ?_⟩
  · obtain ⟨vals, e1, e2⟩ := hP4
    refine ⟨vals, ?_, ?_⟩
    · rw [e0, List.length_set, s.read_length, hm]
      exact e1
    · rw [e0]
      exact e2
  · rw [hsz]
    have := hbel.size
    rcases hx with hx | hx
    · have := hlt1 x hx; omega
    · exact hx.2
  · exact ((hb1.trans (But.of_below hbel)).set (b := Bs) k _ (fun h => by omega)).set n _ (fun _ => hFB)
  · rcases hx with hx | hx
    · exact .inl hx
    · exact .inr hx.1

set_option maxRecDepth 100000 in
set_option maxHeartbeats 2000000 in
theorem rturn_any {w : World} {g : Nat} {F : Nat → Prop} {s : St} {n k y : Nat} {xs : List Nat} (hx : s.read[n]? = some xs) (hk : k < 64) (hy : y < 256) (hbl : s.blown = false) (h : RDisk w g F s) :
    Calls Tryz.prog 19 #[.pointer (some ⟨g, 0, none⟩), .int .i64 (n : Int), .int .i64 (k : Int), .int .u8 (y : Int)] w fun e w' => e = .returned (.int .i64 0) ∧ RActed w g F (s.turned n k y) w' := by
  obtain ⟨ok, bl, ⟨sv, lv, h⟩, hl⟩ := h
  have hn : n < s.sure.length := by have := (List.getElem?_eq_some_iff.1 hx).1; rwa [s.read_length] at this
  have hni : (n : Int) < (s.sure.length : Int) := by omega
  have hki : (k : Int) < 64 := by omega
  obtain ⟨⟨A, c, rfl⟩, AL, cL, rfl⟩ := h.lens
  have c0 := h.c0
  have c3 := h.c3
  rw [hbl] at c3
  have C := rsync_at ok h hl
  have H := Lib.hid (And.intro ok (And.intro bl (And.intro h (And.intro hl (And.intro hx (And.intro hk (And.intro hy hbl)))))))
  clear ok bl h hl hx hk hy hbl
  go_enter Tryz.func19, Tryz.ntmps19
  go_wp2_with fail
  refine C.mono ?_
  rintro e w1 ⟨rfl, h1, hb1, hs1⟩
  clear C
  have hlen : s.settled.sure.length = s.sure.length := s.read_length
  obtain ⟨vals, hrow, hsec⟩ := h1.sure
  rw [hlen] at hrow
  obtain ⟨B, rfl⟩ : ∃ B, A = some ⟨B, 0, none⟩ := by
    obtain ⟨_, _, e, _, hA, _⟩ := row_form hrow
    injection e with e1 e2 e3
    obtain ⟨g', hg'⟩ := hA (by omega)
    exact ⟨g', by rw [e1, hg']⟩
  obtain ⟨v0, hv0⟩ : ∃ v0, vals[n]? = some v0 := ⟨_, List.getElem?_eq_getElem (by rw [hrow.1]; omega)⟩
  have hs0 := hsec n v0 xs hv0 H.out.2.2.2.2.1
  obtain ⟨Bv, cv, rfl⟩ : ∃ Bv cv, v0 = .slice (some ⟨Bv, 0, none⟩) 64 cv := by obtain ⟨Bv, cv, e, _⟩ := hs0; exact ⟨Bv, cv, e⟩
  have c0' := h1.c0
  have cv0 : w1.cell? ⟨B, n, none⟩ = some (.slice (some ⟨Bv, 0, none⟩) 64 cv) := (hrow.cellAt n (by omega)).trans hv0
  have hin : In w1 (some ⟨Bv, 0, none⟩) 64 xs := by obtain ⟨_, _, e, h, _⟩ := hs0; cases e; exact h
  have hw0 : w1.ownsRow w1.heap.size 5 1 (.slice none 0 0) 0 (bvs []) := ⟨rfl, .inl ⟨rfl, rfl⟩⟩
  have hxs : Sec xs := H.out.1.read xs (List.mem_of_getElem? H.out.2.2.2.2.1)
  obtain ⟨x, hxx⟩ : ∃ x, xs.getD k 0 = x := ⟨_, rfl⟩
  have hxb : x < 256 := by
    rw [← hxx, List.getD_eq_getElem?_getD, List.getElem?_eq_getElem (by rw [hxs.1]; exact H.out.2.2.2.2.2.1)]
    exact hxs.2 _ (List.getElem_mem _)
  have q1 := u8_xor_nat x y hxb H.out.2.2.2.2.2.2.1
  have hF : ∀ (w2 : World) (Bs : Nat), Below w1.heap.size w1 w2 → w1.heap.size ≤ Bs → (w2.setCell ⟨Bs, k, none⟩ (.int .u8 ((x ^^^ y : Nat) : Int))).cell? ⟨g, 0, none⟩ = some (.slice (some ⟨B, 0, none⟩) s.sure.length c) ∧
      (w2.setCell ⟨Bs, k, none⟩ (.int .u8 ((x ^^^ y : Nat) : Int))).cell? ⟨B, n, none⟩ = some (.slice (some ⟨Bv, 0, none⟩) 64 cv) ∧ (w2.setCell ⟨Bs, k, none⟩ (.int .u8 ((x ^^^ y : Nat) : Int))).frozen? ⟨B, n, none⟩ = false := fun w2 Bs hb hB => by
    have hh : ∀ z, z < w1.heap.size → (w2.setCell ⟨Bs, k, none⟩ (.int .u8 ((x ^^^ y : Nat) : Int))).heap[z]? = w1.heap[z]? := fun z hz => (heap_setCell_other w2 ⟨Bs, k, none⟩ z _ (by show z ≠ Bs; omega)).trans (hb.block z hz)
    have gl : g < w1.heap.size := (Array.getElem?_eq_some_iff.1 h1.head).1
    have Bl : B < w1.heap.size := own_lt hrow rfl
    refine ⟨(World.cell?_of_block (hh g gl)).trans (h1.c0), (World.cell?_of_block (hh B Bl)).trans cv0, (World.frozen?_of_block (hh B Bl)).trans ?_⟩
    obtain ⟨cur, hc⟩ := own_type hrow rfl
    exact frozen_of_row _ B n _ _ hc
  have HF := Lib.hid hF
  have HX := Lib.hid (And.intro hxs hxx)
  have H1 := Lib.hid (And.intro h1 (And.intro hb1 (And.intro hs1 (And.intro hin (And.intro hrow hsec)))))
  clear h1 hb1 hs1 hin hrow hsec hs0 hlen hF hxs hxx hxb
  go_wp2_with (refine wpList_app w1 rfl _ _ rfl w1.heap.size none 0 0 [] rfl hw0 (some ⟨Bv, 0, none⟩) 64 cv xs rfl H1.out.2.2.2.1 (fun h => by cases h) (by omega) (Nat.le_refl _) ?_; intro A' c' w2 hown hbel; obtain ⟨Bs, rfl, hBs, hcc, hty, hcells⟩ := fresh_row hown HX.out.1.1; obtain ⟨cx, fx⟩ := hcells k H.out.2.2.2.2.2.1; rw [HX.out.2] at cx; obtain ⟨c0s, cvs, fvs⟩ := HF.out w2 Bs hbel hBs; clear hcells)
  go_ret
  exact ⟨rfl, rturn_rest H.out.1 H.out.2.1 H.out.2.2.2.1 H1.out.1 H1.out.2.1 H1.out.2.2.1 hown hbel hBs hcc hn rfl H.out.2.2.2.2.1 HX.out.2 H.out.2.2.2.2.2.2.1⟩

end Go.Proofs.YthbgcijkpincfaaGreatDoor

/-
  disks: a Turn that is not done: ErrArg.
-/
namespace Go.Proofs.YthbgcijkpincfaaGreatDoor
open Go.RowKit

set_option maxRecDepth 100000 in
set_option maxHeartbeats 2000000 in
theorem turn_bad {w : World} {g : Nat} {F : Nat → Prop} {s : St} (z t : Int) (y : Nat) (hz : ¬ (0 ≤ z ∧ z < (s.sure.length : Int) ∧ 0 ≤ t ∧ t < 64)) (h : Disk w g F s) :
    Calls Tryz.prog 18 #[.pointer (some ⟨g, 0, none⟩), .int .i64 z, .int .i64 t, .int .u8 (y : Int)] w fun e w' => e = .returned (.int .i64 1) ∧ w = w' := by
  have hd := isThere_yes h
  have hh := has_any z h
  clear h
  by_cases h1 : 0 ≤ z ∧ z < (s.sure.length : Int)
  · rw [show decide (0 ≤ z ∧ z < (s.sure.length : Int)) = true by simpa using h1] at hh
    by_cases h3 : t < 0
    · have q3 : decide (t < 0) = true := by simpa using h3
      clear hz h1
      go_enter Tryz.func18, Tryz.ntmps18
      go_wp2_with fail
      refine hd.mono ?_
      rintro e w1 ⟨rfl, rfl⟩
      go_wp2_with fail
      refine hh.mono ?_
      rintro e w1 ⟨rfl, rfl⟩
      go_wp2
      go_ret
      exact ⟨rfl, rfl⟩
    · have q3 : decide (t < 0) = false := by simpa using h3
      have h4 : 64 ≤ t := by omega
      clear hz h1
      go_enter Tryz.func18, Tryz.ntmps18
      go_wp2_with fail
      refine hd.mono ?_
      rintro e w1 ⟨rfl, rfl⟩
      go_wp2_with fail
      refine hh.mono ?_
      rintro e w1 ⟨rfl, rfl⟩
      go_wp2
      go_ret
      exact ⟨rfl, rfl⟩
  · rw [show decide (0 ≤ z ∧ z < (s.sure.length : Int)) = false by simpa using h1] at hh
    clear hz h1
    go_enter Tryz.func18, Tryz.ntmps18
    go_wp2_with fail
    refine hd.mono ?_
    rintro e w1 ⟨rfl, rfl⟩
    go_wp2_with fail
    refine hh.mono ?_
    rintro e w1 ⟨rfl, rfl⟩
    go_wp2
    go_ret
    exact ⟨rfl, rfl⟩

end Go.Proofs.YthbgcijkpincfaaGreatDoor

/-
  Both disks side by side: what each call answers and leaves, whatever it is given (gen_tuni.py, from XPUni).
-/
namespace Go.Proofs.YthbgcijkpincfaaGreatDoor
open Go.RowKit

/-- Blocks that the two disks may lie in: from base on, and none of O. -/
def Out (base : Nat) (O : Nat → Prop) (x : Nat) : Prop := base ≤ x ∧ ¬ O x
/-- DTwo disks, apart from one another and from the blocks of O. -/
structure DTwo (base : Nat) (O : Nat → Prop) (w : World) (gd : Nat) (s : St) (gm : Nat) (r : St) (F G : Nat → Prop) : Prop where
  d : Disk w gd F s
  m : RDisk w gm G r
  apart : ∀ x, F x → ¬ G x
  fo : ∀ x, F x → Out base O x
  go : ∀ x, G x → Out base O x
  ol : ∀ x, O x → x < w.heap.size
  bl : base ≤ w.heap.size
def DPair (base : Nat) (O : Nat → Prop) (w : World) (gd : Nat) (s : St) (gm : Nat) (r : St) : Prop := ∃ F G, DTwo base O w gd s gm r F G

theorem disk_ok {w : World} {g : Nat} {F : Nat → Prop} {s : St} (h : Disk w g F s) : s.Ok := h.1
theorem disk_lt {w : World} {g : Nat} {F : Nat → Prop} {s : St} (h : Disk w g F s) : ∀ x, F x → x < w.heap.size := h.2.2
theorem acted_refl {w : World} {g : Nat} {F : Nat → Prop} {s : St} (h : Disk w g F s) : Acted w g F s w := ⟨F, h, But.refl _ _, fun _ hx => .inl hx⟩
theorem racted_refl {w : World} {g : Nat} {F : Nat → Prop} {s : St} (h : RDisk w g F s) : RActed w g F s w := ⟨F, h, But.refl _ _, fun _ hx => .inl hx⟩
section
variable {base : Nat} {O : Nat → Prop} {w w' : World} {gd gm : Nat} {s s' r r' : St} {F G : Nat → Prop}
theorem DTwo.actD (h : DTwo base O w gd s gm r F G) (ha : Acted w gd F s' w') : DPair base O w' gd s' gm r ∧ But (Out base O) w w' := by
  obtain ⟨F', hd, hb, hf⟩ := ha
  refine ⟨⟨F', G, hd, h.m.but hb (fun x hx hfx => h.apart x hfx hx), fun x hx hg => ?_, fun x hx => ?_, h.go, fun x hx => Nat.lt_of_lt_of_le (h.ol x hx) hb.size, Nat.le_trans h.bl hb.size⟩, hb.mono (fun x _ e => h.fo x e)⟩
  · rcases hf x hx with e | e
    · exact h.apart x e hg
    · have := h.m.2.2.2 x hg; omega
  · rcases hf x hx with e | e
    · exact h.fo x e
    · exact ⟨Nat.le_trans h.bl e, fun ho => by have := h.ol x ho; omega⟩
theorem DTwo.actM (h : DTwo base O w gd s gm r F G) (ha : RActed w gm G r' w') : DPair base O w' gd s gm r' ∧ But (Out base O) w w' := by
  obtain ⟨G', hd, hb, hf⟩ := ha
  refine ⟨⟨F, G', h.d.but hb (fun x hx hgx => h.apart x hx hgx), hd, fun x hx hg => ?_, h.fo, fun x hx => ?_, fun x hx => Nat.lt_of_lt_of_le (h.ol x hx) hb.size, Nat.le_trans h.bl hb.size⟩, hb.mono (fun x _ e => h.go x e)⟩
  · rcases hf x hg with e | e
    · exact h.apart x hx e
    · have := disk_lt h.d x hx; omega
  · rcases hf x hx with e | e
    · exact h.go x e
    · exact ⟨Nat.le_trans h.bl e, fun ho => by have := h.ol x ho; omega⟩
/-- What keeps to the blocks of O, or to new ones, leaves both disks be. -/
theorem DPair.keep {S : Nat → Prop} (h : DPair base O w gd s gm r) (hb : But S w w') (hs : ∀ x, S x → x < base ∨ O x) : DPair base O w' gd s gm r := by
  obtain ⟨F, G, h⟩ := h
  refine ⟨F, G, h.d.but hb (fun x hx hsx => ?_), h.m.but hb (fun x hx hsx => ?_), h.apart, h.fo, h.go, fun x hx => Nat.lt_of_lt_of_le (h.ol x hx) hb.size, Nat.le_trans h.bl hb.size⟩
  · rcases hs x hsx with e | e
    · have := (h.fo x hx).1; omega
    · exact (h.fo x hx).2 e
  · rcases hs x hsx with e | e
    · have := (h.go x hx).1; omega
    · exact (h.go x hx).2 e
theorem DPair.below (h : DPair base O w gd s gm r) (hb : Below w.heap.size w w') : DPair base O w' gd s gm r := h.keep (S := fun _ => False) (But.of_below hb) (fun _ e => e.elim)
/-- New blocks are laid to O; or some are no longer of it. -/
theorem DPair.more {O' : Nat → Prop} (h : DPair base O w gd s gm r) (hb : Below w.heap.size w w') (ho : ∀ x, O' x → O x ∨ (w.heap.size ≤ x ∧ x < w'.heap.size)) : DPair base O' w' gd s gm r := by
  obtain ⟨F, G, h⟩ := h
  refine ⟨F, G, h.d.below hb, h.m.below hb, h.apart, fun x hx => ⟨(h.fo x hx).1, fun e => ?_⟩, fun x hx => ⟨(h.go x hx).1, fun e => ?_⟩, fun x hx => ?_, Nat.le_trans h.bl hb.size⟩
  · rcases ho x e with e | e
    · exact (h.fo x hx).2 e
    · have := disk_lt h.d x hx; omega
  · rcases ho x e with e | e
    · exact (h.go x hx).2 e
    · have := h.m.2.2.2 x hx; omega
  · rcases ho x hx with e | e
    · exact Nat.lt_of_lt_of_le (h.ol x e) hb.size
    · exact e.2

theorem DPair.callD {f : FuncId} {args : Array Value} {Q : Ending → Prop} (h : DPair base O w gd s gm r) (hc : ∀ F G, DTwo base O w gd s gm r F G → Calls Tryz.prog f args w fun e w' => Q e ∧ Acted w gd F s' w') :
    Calls Tryz.prog f args w fun e w' => Q e ∧ DPair base O w' gd s' gm r ∧ But (Out base O) w w' := by
  obtain ⟨F, G, h⟩ := h
  exact (hc F G h).mono fun e w' ⟨hq, ha⟩ => ⟨hq, h.actD ha⟩
theorem DPair.callM {f : FuncId} {args : Array Value} {Q : Ending → Prop} (h : DPair base O w gd s gm r) (hc : ∀ F G, DTwo base O w gd s gm r F G → Calls Tryz.prog f args w fun e w' => Q e ∧ RActed w gm G r' w') :
    Calls Tryz.prog f args w fun e w' => Q e ∧ DPair base O w' gd s gm r' ∧ But (Out base O) w w' := by
  obtain ⟨F, G, h⟩ := h
  exact (hc F G h).mono fun e w' ⟨hq, ha⟩ => ⟨hq, h.actM ha⟩
end

/-- What is answered, and what is behind it. -/
def St.inn (s : St) (z : Int) : Prop := 0 ≤ z ∧ z < (s.sure.length : Int)
instance (s : St) (z : Int) : Decidable (s.inn z) := by unfold St.inn; exact inferInstance
def St.wcode (s : St) (z : Int) (n : Nat) : Int := if s.inn z ∧ n ≤ 64 then (if s.lets = 0 then 9 else 0) else 1
def St.wnext (s : St) (z : Int) (n : Nat) (xs : List Nat) : St := if s.inn z ∧ n ≤ 64 then (if s.lets = 0 then s.burnt else s.wrote z.toNat xs) else s
def St.scode (s : St) : Int := if s.lets = 0 then 9 else 0
def St.snext (s : St) : St := if s.lets = 0 then s.burnt else s.burnt.settled
def St.tcode (s : St) (z t : Int) : Int := if s.inn z ∧ 0 ≤ t ∧ t < 64 then (if s.blown then 9 else 0) else 1
def St.tnext (s : St) (z t : Int) (y : Nat) : St := if s.inn z ∧ 0 ≤ t ∧ t < 64 then (if s.blown then s else s.turned z.toNat t.toNat y) else s
def St.fnext (s : St) (z : Int) : St := { s with lets := letsOf z, blown := false }
def St.rcode (s : St) (z : Int) : Int := if s.inn z then 0 else 1
def St.rlist (s : St) (z : Int) : List Nat := if s.inn z then s.read.getD z.toNat [] else []

section
variable {base : Nat} {O : Nat → Prop} {w : World} {gd gm : Nat} {s r : St}
theorem play_write {A : Option Addr} {n c : Nat} {xs : List Nat} {z : Int} (h : DPair base O w gd s gm r) (hin : In w A n xs) (hb : ∀ x ∈ xs, x < 256) (hA : 0 < n → ∀ ad, A = some ad → ¬ Out base O ad.block) (hw : s.waits.length ≤ 1000000) :
    Calls Tryz.prog 20 #[.pointer (some ⟨gd, 0, none⟩), .int .i64 z, .slice A n c] w fun e w' => e = .returned (.int .i64 (s.wcode z n)) ∧ DPair base O w' gd (s.wnext z n xs) gm r ∧ But (Out base O) w w' := by
  refine h.callD (Q := fun e => e = .returned (.int .i64 (s.wcode z n))) fun F G h => ?_
  unfold St.wcode St.wnext
  by_cases hc : s.inn z ∧ n ≤ 64
  · rw [if_pos hc, if_pos hc]
    obtain ⟨k, rfl⟩ := Int.eq_ofNat_of_zero_le hc.1.1
    have hk : k < s.sure.length := by have := hc.1.2; omega
    by_cases h0 : s.lets = 0
    · rw [if_pos h0, if_pos h0]
      exact write_blow hk A n c hc.2 h0 h.d
    · rw [if_neg h0, if_neg h0]
      exact write_any hk A n c xs hin (fun hn ad e e2 => hA hn ad e (h.fo _ (by rw [e2]; exact h.d.mem))) hb hc.2 h0 (by omega) h.d
  · rw [if_neg hc, if_neg hc]
    refine (write_bad z A n c (fun e => hc ⟨⟨e.1, e.2.1⟩, e.2.2⟩) h.d).mono ?_
    rintro e w' ⟨he, rfl⟩
    exact ⟨he, acted_refl h.d⟩
theorem play_rwrite {A : Option Addr} {n c : Nat} {xs : List Nat} {z : Int} (h : DPair base O w gd s gm r) (hin : In w A n xs) (hb : ∀ x ∈ xs, x < 256) (hA : 0 < n → ∀ ad, A = some ad → ¬ Out base O ad.block) (hw : r.waits.length ≤ 1000000) :
    Calls Tryz.prog 21 #[.pointer (some ⟨gm, 0, none⟩), .int .i64 z, .slice A n c] w fun e w' => e = .returned (.int .i64 (r.wcode z n)) ∧ DPair base O w' gd s gm (r.wnext z n xs) ∧ But (Out base O) w w' := by
  refine h.callM (Q := fun e => e = .returned (.int .i64 (r.wcode z n))) fun F G h => ?_
  unfold St.wcode St.wnext
  by_cases hc : r.inn z ∧ n ≤ 64
  · rw [if_pos hc, if_pos hc]
    obtain ⟨k, rfl⟩ := Int.eq_ofNat_of_zero_le hc.1.1
    have hk : k < r.sure.length := by have := hc.1.2; omega
    by_cases h0 : r.lets = 0
    · rw [if_pos h0, if_pos h0]
      exact rwrite_blow hk A n c hc.2 h0 h.m
    · rw [if_neg h0, if_neg h0]
      exact rwrite_any hk hc.2 hin hb (fun hn ad e e2 => hA hn ad e (h.go _ e2)) h0 hw h.m
  · rw [if_neg hc, if_neg hc]
    refine (rwrite_bad z A n c (fun e => hc ⟨⟨e.1, e.2.1⟩, e.2.2⟩) h.m).mono ?_
    rintro e w' ⟨he, rfl⟩
    exact ⟨he, racted_refl h.m⟩
theorem play_sync (h : DPair base O w gd s gm r) :
    Calls Tryz.prog 80 #[.pointer (some ⟨gd, 0, none⟩)] w fun e w' => e = .returned (.int .i64 s.scode) ∧ DPair base O w' gd s.snext gm r ∧ But (Out base O) w w' := by
  refine h.callD (Q := fun e => e = .returned (.int .i64 s.scode)) fun F G h => ?_
  unfold St.scode St.snext
  by_cases h0 : s.lets = 0
  · rw [if_pos h0, if_pos h0]; exact sync_blow h0 h.d
  · rw [if_neg h0, if_neg h0]; exact sync_any h0 h.d
theorem play_rsync (h : DPair base O w gd s gm r) :
    Calls Tryz.prog 77 #[.pointer (some ⟨gm, 0, none⟩)] w fun e w' => e = .returned (.int .i64 r.scode) ∧ DPair base O w' gd s gm r.snext ∧ But (Out base O) w w' := by
  refine h.callM (Q := fun e => e = .returned (.int .i64 r.scode)) fun F G h => ?_
  unfold St.scode St.snext
  by_cases h0 : r.lets = 0
  · rw [if_pos h0, if_pos h0]; exact rsync_blow h0 h.m
  · rw [if_neg h0, if_neg h0]; exact rsync_any h0 h.m
theorem play_fuse {z : Int} (hz : z ≤ 9223372036854775807) (h : DPair base O w gd s gm r) :
    Calls Tryz.prog 14 #[.pointer (some ⟨gd, 0, none⟩), .int .i64 z] w fun e w' => e = .returned (.int .i64 0) ∧ DPair base O w' gd (s.fnext z) gm r ∧ But (Out base O) w w' :=
  h.callD (Q := fun e => e = .returned (.int .i64 0)) fun _ _ h => fuse_any z hz h.d
theorem play_rfuse {z : Int} (hz : z ≤ 9223372036854775807) (h : DPair base O w gd s gm r) :
    Calls Tryz.prog 15 #[.pointer (some ⟨gm, 0, none⟩), .int .i64 z] w fun e w' => e = .returned (.int .i64 0) ∧ DPair base O w' gd s gm (r.fnext z) ∧ But (Out base O) w w' :=
  h.callM (Q := fun e => e = .returned (.int .i64 0)) fun _ _ h => rfuse_any z hz h.m
theorem play_turn {z t : Int} {y : Nat} (hy : y < 256) (h : DPair base O w gd s gm r) :
    Calls Tryz.prog 18 #[.pointer (some ⟨gd, 0, none⟩), .int .i64 z, .int .i64 t, .int .u8 (y : Int)] w fun e w' => e = .returned (.int .i64 (s.tcode z t)) ∧ DPair base O w' gd (s.tnext z t y) gm r ∧ But (Out base O) w w' := by
  refine h.callD (Q := fun e => e = .returned (.int .i64 (s.tcode z t))) fun F G h => ?_
  unfold St.tcode St.tnext
  by_cases hc : s.inn z ∧ 0 ≤ t ∧ t < 64
  · rw [if_pos hc, if_pos hc]
    obtain ⟨n, rfl⟩ := Int.eq_ofNat_of_zero_le hc.1.1
    obtain ⟨k, rfl⟩ := Int.eq_ofNat_of_zero_le hc.2.1
    have hn : n < s.sure.length := by have := hc.1.2; omega
    have hk : k < 64 := by have := hc.2.2; omega
    cases hb : s.blown
    · exact turn_any hn hk hy hb h.d
    · refine (turn_blown hn hk hb h.d).mono ?_
      rintro e w' ⟨he, rfl⟩
      exact ⟨he, acted_refl h.d⟩
  · rw [if_neg hc, if_neg hc]
    refine (turn_bad z t y (fun e => hc ⟨⟨e.1, e.2.1⟩, e.2.2⟩) h.d).mono ?_
    rintro e w' ⟨he, rfl⟩
    exact ⟨he, acted_refl h.d⟩
theorem play_rturn {z t : Int} {y : Nat} (hy : y < 256) (h : DPair base O w gd s gm r) :
    Calls Tryz.prog 19 #[.pointer (some ⟨gm, 0, none⟩), .int .i64 z, .int .i64 t, .int .u8 (y : Int)] w fun e w' => e = .returned (.int .i64 (r.tcode z t)) ∧ DPair base O w' gd s gm (r.tnext z t y) ∧ But (Out base O) w w' := by
  refine h.callM (Q := fun e => e = .returned (.int .i64 (r.tcode z t))) fun F G h => ?_
  unfold St.tcode St.tnext
  by_cases hc : r.inn z ∧ 0 ≤ t ∧ t < 64
  · rw [if_pos hc, if_pos hc]
    obtain ⟨n, rfl⟩ := Int.eq_ofNat_of_zero_le hc.1.1
    obtain ⟨k, rfl⟩ := Int.eq_ofNat_of_zero_le hc.2.1
    have hn : n < r.sure.length := by have := hc.1.2; omega
    have hk : k < 64 := by have := hc.2.2; omega
    cases hb : r.blown
    · exact rturn_any (List.getElem?_eq_getElem (by rw [St.read_length]; exact hn)) hk hy hb h.m
    · refine (rturn_blown hn hk hb h.m).mono ?_
      rintro e w' ⟨he, rfl⟩
      exact ⟨he, racted_refl h.m⟩
  · rw [if_neg hc, if_neg hc]
    refine (rturn_bad z t y (fun e => hc ⟨⟨e.1, e.2.1⟩, e.2.2⟩) h.m).mono ?_
    rintro e w' ⟨he, rfl⟩
    exact ⟨he, racted_refl h.m⟩
theorem play_blown (h : DPair base O w gd s gm r) : Calls Tryz.prog 99 #[.pointer (some ⟨gd, 0, none⟩)] w fun e w' => e = .returned (.bool s.blown) ∧ w = w' := by
  obtain ⟨F, G, h⟩ := h; exact blown_any h.d
theorem play_rblown (h : DPair base O w gd s gm r) : Calls Tryz.prog 100 #[.pointer (some ⟨gm, 0, none⟩)] w fun e w' => e = .returned (.bool r.blown) ∧ w = w' := by
  obtain ⟨F, G, h⟩ := h; exact rblown_any h.m
theorem play_waits (h : DPair base O w gd s gm r) : Calls Tryz.prog 97 #[.pointer (some ⟨gd, 0, none⟩)] w fun e w' => e = .returned (.int .i64 (s.waits.length : Int)) ∧ w = w' := by
  obtain ⟨F, G, h⟩ := h; exact waits_any h.d
theorem play_rwaits (h : DPair base O w gd s gm r) : Calls Tryz.prog 98 #[.pointer (some ⟨gm, 0, none⟩)] w fun e w' => e = .returned (.int .i64 (r.waits.length : Int)) ∧ w = w' := by
  obtain ⟨F, G, h⟩ := h; exact rwaits_any h.m
theorem play_len (h : DPair base O w gd s gm r) : Calls Tryz.prog 69 #[.pointer (some ⟨gd, 0, none⟩)] w fun e w' => e = .returned (.int .i64 (s.sure.length : Int)) ∧ w = w' := by
  obtain ⟨F, G, h⟩ := h; exact len_any h.d
theorem play_rlen (h : DPair base O w gd s gm r) : Calls Tryz.prog 73 #[.pointer (some ⟨gm, 0, none⟩)] w fun e w' => e = .returned (.int .i64 (r.sure.length : Int)) ∧ w = w' := by
  obtain ⟨F, G, h⟩ := h; exact rlen_any h.m
end

end Go.Proofs.YthbgcijkpincfaaGreatDoor

/-
  The document's own store (almonerref07): what it is; Len, Left, Get.
-/
namespace Go.Proofs.YthbgcijkpincfaaGreatDoor
open Go.RowKit

/-- Block g is the document's store of the records l, on its disk gd, in many sectors from from_ on. -/
structure RStoAt (w : World) (g gd from_ many : Nat) (v : Value) (vals : List Value) (G : Nat → Prop) (l : List (List Nat)) : Prop where
  head : w.heap[g]? = some (.cells #[.pointer (some ⟨gd, 0, none⟩), .int .i64 (from_ : Int), .int .i64 (many : Int), .int .i64 (usedL l : Int), v] 124 (0, 0))
  row : w.ownsRow 0 50 1 v l.length vals
  len : vals.length = l.length
  recs : ∀ (i : Nat) (u : Value) (b : List Nat), vals[i]? = some u → l[i]? = some b → w.ownsRow 0 5 1 u b.length (bvs b) ∧ ∀ x, u.ownBlock = some x → G x
  gg : G g
  gv : ∀ x, v.ownBlock = some x → G x
  ok : ∀ b ∈ l, b.length ≤ 256 ∧ ∀ x ∈ b, x < 256
  fits : usedL l ≤ many
def RSto (w : World) (g gd from_ many : Nat) (G : Nat → Prop) (l : List (List Nat)) : Prop := (∃ v vals, RStoAt w g gd from_ many v vals G l) ∧ ∀ x, G x → x < w.heap.size
section
variable {w w' : World} {g gd from_ many : Nat} {v : Value} {vals : List Value} {G : Nat → Prop} {l : List (List Nat)}
theorem RStoAt.c0 (h : RStoAt w g gd from_ many v vals G l) : w.cell? ⟨g, 0, none⟩ = some (.pointer (some ⟨gd, 0, none⟩)) := by rw [cell_of_row _ g 0 _ _ (0, 0) h.head]; rfl
theorem RStoAt.c1 (h : RStoAt w g gd from_ many v vals G l) : w.cell? ⟨g, 1, none⟩ = some (.int .i64 (from_ : Int)) := by rw [cell_of_row _ g 1 _ _ (0, 0) h.head]; rfl
theorem RStoAt.c2 (h : RStoAt w g gd from_ many v vals G l) : w.cell? ⟨g, 2, none⟩ = some (.int .i64 (many : Int)) := by rw [cell_of_row _ g 2 _ _ (0, 0) h.head]; rfl
theorem RStoAt.c3 (h : RStoAt w g gd from_ many v vals G l) : w.cell? ⟨g, 3, none⟩ = some (.int .i64 (usedL l : Int)) := by rw [cell_of_row _ g 3 _ _ (0, 0) h.head]; rfl
theorem RStoAt.c4 (h : RStoAt w g gd from_ many v vals G l) : w.cell? ⟨g, 4, none⟩ = some v := by rw [cell_of_row _ g 4 _ _ (0, 0) h.head]; rfl
theorem RStoAt.fz (h : RStoAt w g gd from_ many v vals G l) (i : Nat) : w.frozen? ⟨g, i, none⟩ = false := frozen_of_row _ g i _ _ h.head
theorem RStoAt.lt (h : RStoAt w g gd from_ many v vals G l) : g < w.heap.size := (Array.getElem?_eq_some_iff.1 h.head).1
theorem RStoAt.blocks (h : RStoAt w g gd from_ many v vals G l) (hb : ∀ x, G x → w'.heap[x]? = w.heap[x]?) : RStoAt w' g gd from_ many v vals G l :=
  ⟨(hb g h.gg).trans h.head, own_block h.row (fun x hx => hb x (h.gv x hx)), h.len, fun i u b hu hb2 => ⟨own_block (h.recs i u b hu hb2).1 (fun x hx => hb x ((h.recs i u b hu hb2).2 x hx)), (h.recs i u b hu hb2).2⟩, h.gg, h.gv, h.ok, h.fits⟩
theorem RSto.but {S : Nat → Prop} (h : RSto w g gd from_ many G l) (hb : But S w w') (hd : ∀ x, G x → ¬ S x) : RSto w' g gd from_ many G l := by
  obtain ⟨⟨v, vals, h⟩, hl⟩ := h
  exact ⟨⟨v, vals, h.blocks (fun x hx => hb.block x (hl x hx) (hd x hx))⟩, fun x hx => Nat.lt_of_lt_of_le (hl x hx) hb.size⟩
theorem RSto.below (h : RSto w g gd from_ many G l) (hb : Below w.heap.size w w') : RSto w' g gd from_ many G l := h.but (S := fun _ => False) (But.of_below hb) (fun _ _ hf => hf)

set_option maxRecDepth 100000 in
set_option maxHeartbeats 1000000 in
theorem rslen_any (h : RSto w g gd from_ many G l) :
    Calls Tryz.prog 28 #[.pointer (some ⟨g, 0, none⟩)] w fun e w' => e = .returned (.int .i64 (l.length : Int)) ∧ w = w' := by
  obtain ⟨⟨v, vals, h⟩, _⟩ := h
  have c4 := h.c4
  obtain ⟨A, c, rfl, hnc, _⟩ := row_form h.row
  clear h hnc
  go_enter Tryz.func28, Tryz.ntmps28
  go_wp2
  go_ret
  exact ⟨rfl, rfl⟩

set_option maxRecDepth 100000 in
set_option maxHeartbeats 1000000 in
theorem rsget_any {k : Nat} {b : List Nat} (h : RSto w g gd from_ many G l) (hb : l[k]? = some b) :
    Calls Tryz.prog 33 #[.pointer (some ⟨g, 0, none⟩), .int .i64 (k : Int)] w fun e w' => ∃ u, e = .returned (.tuple #[u, .int .i64 0]) ∧ w'.ownsRow w.heap.size 5 1 u b.length (bvs b) ∧ Below w.heap.size w w' := by
  obtain ⟨⟨v, vals, h⟩, _⟩ := h
  have c4 := h.c4
  have hk := (List.getElem?_eq_some_iff.1 hb).1
  obtain ⟨u, hu⟩ : ∃ u, vals[k]? = some u := ⟨_, List.getElem?_eq_getElem (by rw [h.len]; exact hk)⟩
  have hr := h.recs k u b hu hb
  have hbl := (h.ok b (List.mem_of_getElem? hb)).1
  obtain ⟨A, c, rfl, hnc, hA, _⟩ := row_form h.row
  obtain ⟨g0, rfl⟩ := hA (by omega)
  have cu := h.row.cells rfl k u hu
  obtain ⟨B, d, rfl, hbd, _⟩ := row_form hr.1
  have hB := own_nil hr.1
  have HI := Lib.hid (And.intro (In.of_own hr.1) hB)
  have hki : (k : Int) < (l.length : Int) := by omega
  have hk0 : decide ((k : Int) < 0) = false := by simp
  have hk1 : ¬ l.length ≤ k := by omega
  have cu1 : w.cell? ⟨g0, k, none⟩ = some (.slice B b.length d) := by
    have e : (⟨g0, 0, none⟩ : Addr).add k = ⟨g0, k, none⟩ := by cases k <;> simp [Addr.add]
    rw [← e]; exact cu
  clear h hb hr hu hA hnc cu hB hbd
  go_enter Tryz.func33, Tryz.ntmps33
  go_wp2_with (
    at_builtin
    refine wpList_app w rfl _ _ rfl w.heap.size none 0 0 [] rfl ⟨rfl, .inl ⟨rfl, rfl⟩⟩ B b.length d b rfl HI.out.1 HI.out.2 (by omega) (by simp) ?_
    intro A' c' w' ho hb)
  go_ret2
  rw [Nat.zero_add, List.nil_append] at ho
  exact ⟨_, rfl, ho, hb⟩
end

end Go.Proofs.YthbgcijkpincfaaGreatDoor

/-
  The document's own store: Left, Get of what is not there, Sync; noughts, bytes.
-/
namespace Go.Proofs.YthbgcijkpincfaaGreatDoor
open Go.RowKit

section
variable {w : World} {g gd from_ many : Nat} {F G : Nat → Prop} {l : List (List Nat)} {st : St}
set_option maxRecDepth 100000 in
set_option maxHeartbeats 1000000 in
theorem rsget_bad {z : Int} (h : RSto w g gd from_ many G l) (hz : ¬ (0 ≤ z ∧ z < (l.length : Int))) :
    Calls Tryz.prog 33 #[.pointer (some ⟨g, 0, none⟩), .int .i64 z] w fun e w' => e = .returned (.tuple #[.slice none 0 0, .int .i64 1]) ∧ w = w' := by
  obtain ⟨⟨v, vals, h⟩, _⟩ := h
  have c4 := h.c4
  obtain ⟨A, c, rfl, hnc, _⟩ := row_form h.row
  clear h hnc
  by_cases h0 : z < 0
  · go_enter Tryz.func33, Tryz.ntmps33
    go_wp2
    go_ret2
    exact ⟨rfl, rfl⟩
  · have h1 : ¬ z < (l.length : Int) := by omega
    have h0' : decide (z < 0) = false := by simp; omega
    go_enter Tryz.func33, Tryz.ntmps33
    go_wp2
    go_ret2
    exact ⟨rfl, rfl⟩

set_option maxRecDepth 100000 in
set_option maxHeartbeats 1000000 in
theorem rssync_any (h : RSto w g gd from_ many G l) (hd : RDisk w gd F st) :
    Calls Tryz.prog 13 #[.pointer (some ⟨g, 0, none⟩)] w fun e w' => e = .returned (.int .i64 st.sc) ∧ RActed w gd F st.sn w' := by
  obtain ⟨⟨v, vals, h⟩, _⟩ := h
  have c0 := h.c0
  have CS : Calls Tryz.prog 77 #[.pointer (some ⟨gd, 0, none⟩)] w fun e w' => e = .returned (.int .i64 st.sc) ∧ RActed w gd F st.sn w' := by
    by_cases hl : st.lets = 0
    · have e1 : st.sc = 9 := by unfold St.sc; rw [if_pos hl]
      have e2 : st.sn = st.burnt := by unfold St.sn; rw [if_pos hl]
      rw [e1, e2]; exact rsync_blow hl hd
    · have e1 : st.sc = 0 := by unfold St.sc; rw [if_neg hl]
      have e2 : st.sn = st.burnt.settled := by unfold St.sn; rw [if_neg hl]
      rw [e1, e2]; exact rsync_any hl hd
  have HS := Lib.hid CS
  clear h hd CS
  go_enter Tryz.func13, Tryz.ntmps13
  go_wp2_with fail
  refine HS.out.mono ?_
  rintro e w1 ⟨rfl, ha⟩
  go_wp2
  go_ret
  exact ⟨rfl, ha⟩

set_option maxRecDepth 100000 in
set_option maxHeartbeats 1000000 in
theorem rsleft_any (h : RSto w g gd from_ many G l) (hm : many ≤ 1000000) :
    Calls Tryz.prog 30 #[.pointer (some ⟨g, 0, none⟩)] w fun e w' => e = .returned (.int .i64 ((many - usedL l : Nat) : Int)) ∧ Below w.heap.size w w' := by
  obtain ⟨⟨v, vals, h⟩, _⟩ := h
  have c2 := h.c2
  have c3 := h.c3
  have hf := h.fits
  obtain ⟨u, hu⟩ : ∃ u, usedL l = u := ⟨_, rfl⟩
  rw [hu] at c3 hf ⊢
  clear h hu
  go_enter Tryz.func30, Tryz.ntmps30
  go_wp2_with fail
  go_region
  go_wp2
  go_ret
  refine ⟨?_, (Below.refl _ w).drew⟩
  go_num

set_option maxRecDepth 100000 in
set_option maxHeartbeats 1000000 in
theorem rnoughts_any {k : Nat} {xs : List Nat} (h : RSto w g gd from_ many G l) (hd : RDisk w gd F st) (hx : st.read[from_ + k]? = some xs) (hk : from_ + k ≤ 1000000) :
    Calls Tryz.prog 76 #[.pointer (some ⟨g, 0, none⟩), .int .i64 (k : Int)] w fun e w' => e = .returned (.bool (decide (xs = nought))) ∧ Below w.heap.size w w' := by
  obtain ⟨⟨v, vals, h⟩, _⟩ := h
  have c0 := h.c0
  have c1 := h.c1
  have hsec : Sec xs := hd.1.read xs (List.mem_of_getElem? hx)
  have hg := h.lt
  have CR := fun (W : World) (hb : Below w.heap.size w W) => rread_any hx (hd.below hb)
  have ew : IntKind.i64.wrap ((from_ : Int) + (k : Int)) = ((from_ + k : Nat) : Int) := by rw [IntKind.wrap_i64]; omega
  have HC := Lib.hid (And.intro hsec CR)
  clear h hd hx CR hsec hk
  go_enter Tryz.func76, Tryz.ntmps76
  go_wp2_with fail
  go_region_held3 (fun W' => W'.cell? ⟨g, 0, none⟩ = some (.pointer (some ⟨gd, 0, none⟩)) ∧ W'.cell? ⟨g, 1, none⟩ = some (.int .i64 (from_ : Int))) (first | exact ⟨c0, c1⟩) (first | (go_at_call 96; refine (HC.out.2 _ ((Below.refl _ w).drew)).mono ?_; rintro e w1 ⟨A, c, rfl, hin, hb1⟩; have c0 := (hb1.cell hg).trans c0; have c1 := (hb1.cell hg).trans c1))
  have HB := Lib.hid hb1
  have HI := Lib.hid hin
  clear c0 c1 hb1 hin
  have hl := HC.out.1.1
  go_wp2_with fail
  go_loopw [7] (fun i wr => ∃ j : Nat, j ≤ 64 ∧ i = .int .i64 (j : Int) ∧ wr = w1 ∧ xs.take j = List.replicate j 0) (fun i _ => 64 - (intOf i).toNat)
  case atStart => exact ⟨0, Nat.zero_le _, rfl, rfl, rfl⟩
  case round =>
    obtain ⟨j, hj, rfl, rfl, hz⟩ := hrel
    by_cases hlt : j < 64
    · have hji : (j : Int) < 64 := by omega
      obtain ⟨y, hy⟩ : ∃ y, xs[j]? = some y := ⟨_, List.getElem?_eq_getElem (by omega)⟩
      obtain ⟨ad, rfl, hcb⟩ := HI.out.rd j y hy
      have HZ := Lib.hid (And.intro hz hy)
      have hc : wr.cell? (ad.add j) = some (.int .u8 (y : Int)) := hcb
      clear hz hy hcb
      by_cases h0 : y = 0
      · subst h0
        have hc0 : wr.cell? (ad.add j) = some (.int .u8 0) := hc
        clear hc
        go_wp2_with fail
        go_roundw
        case rel => exact ⟨j + 1, by omega, by go_num, trivial, by rw [List.take_add_one, HZ.out.1, HZ.out.2, List.replicate_succ']; rfl⟩
        case measure => simp [intOf]; omega
      · have q : ((y : Int) != 0) = true := by simp; omega
        have q1 : ¬ (y : Int) = 0 := by omega
        go_wp2_with fail
        go_ret
        have e : decide (xs = nought) = false := by
          apply decide_eq_false
          intro e
          have := HZ.out.2
          rw [e] at this
          have h2 : nought[j]? = some 0 := by unfold nought; rw [List.getElem?_replicate, if_pos hlt]
          rw [h2] at this
          cases this
          exact h0 rfl
        rw [e]
        exact ⟨rfl, Below.trans ((Below.refl _ w).drew) HB.out⟩
    · obtain rfl : j = 64 := by omega
      go_wp2_with fail
      go_ret
      have e : xs = nought := by
        rw [List.take_of_length_le (by omega)] at hz
        exact hz
      rw [decide_eq_true e]
      exact ⟨rfl, Below.trans ((Below.refl _ w).drew) HB.out⟩
end

end Go.Proofs.YthbgcijkpincfaaGreatDoor

/-
  The document's own answers of layer 1: power, Get, there, GetBytes.
-/
namespace Go.Proofs.YthbgcijkpincfaaGreatDoor
open Go.RowKit

/-- A callee that leaves the world alone, met in a second region that only reads. -/
theorem quiet_again {P : Program} {f : FuncId} {args : Array Value} {w : World} {a n : Nat} {v : Value} (h : Calls P f args (w.drewN (a + n)) fun e w' => e = .returned v ∧ w' = w.drewN (a + n)) :
    Calls P f args (w.drewN (a + n)) fun e w'' => e = .returned v ∧ ∃ m, w'' = w.drewN (a + m) := h.mono fun _ _ ⟨he, hm⟩ => ⟨he, n, hm⟩

set_option maxRecDepth 100000 in
set_option maxHeartbeats 400000 in
theorem power_any (p P : Nat) (hp : p ≤ 7) (hP : 256 ^ p = P) (w : World) :
    Calls Tryz.prog 240 #[.int .i64 (p : Int)] w fun e w' => e = .returned (.int .u64 (P : Int)) ∧ w' = w := by
  have HP := Lib.hid hP
  clear hP
  go_enter Tryz.func240, Tryz.ntmps240
  go_wp2
  go_loop [3, 4] (fun t i => ∃ j Q : Nat, j ≤ p ∧ i = .int .i64 (j : Int) ∧ t = .int .u64 (Q : Int) ∧ 256 ^ j = Q) (fun _ i => p - (intOf i).toNat)
  case atStart => exact ⟨0, 1, Nat.zero_le _, rfl, rfl, rfl⟩
  case round =>
    obtain ⟨j, Q, hj, rfl, rfl, hQ⟩ := hrel
    by_cases hlt : j < p
    · have hb : Q ≤ 281474976710656 := by
        rw [← hQ]
        exact Nat.le_trans (Nat.pow_le_pow_right (by omega) (show j ≤ 6 by omega)) (by decide)
      have HQ := Lib.hid hQ
      clear hQ
      go_wp2
      go_round
      case rel => exact ⟨j + 1, 256 * Q, by omega, by go_num, by go_num, by rw [Nat.pow_succ, HQ.out]; omega⟩
      case measure => simp [intOf]; omega
    · obtain rfl : j = p := by omega
      obtain rfl : Q = P := hQ.symm.trans HP.out
      go_wp2
      go_ret
      exact ⟨rfl, rfl⟩

theorem fold_acc (ys : List Nat) : ∀ a, ys.foldl (fun n d => n * 256 + d) a = a * 256 ^ ys.length + val ys := by
  induction ys with
  | nil => intro a; simp [val]
  | cons d ys ih =>
    intro a
    have h0 : val (d :: ys) = d * 256 ^ ys.length + val ys := by
      have := ih (0 * 256 + d)
      simpa [val] using this
    rw [List.foldl_cons, ih, h0, List.length_cons, Nat.pow_succ, Nat.add_mul, Nat.mul_assoc, Nat.mul_comm 256 (256 ^ ys.length)]
    omega
theorem val_cons (d : Nat) (ys : List Nat) : val (d :: ys) = d * 256 ^ ys.length + val ys := by
  have := fold_acc ys (0 * 256 + d)
  simpa [val] using this
theorem drop_one {xs : List Nat} {k x : Nat} (h : xs[k]? = some x) : xs.drop k = x :: xs.drop (k + 1) := by
  have hl := (List.getElem?_eq_some_iff.1 h)
  rw [List.drop_eq_getElem_cons hl.1, hl.2]

set_option maxRecDepth 100000 in
set_option maxHeartbeats 400000 in
theorem refGet_arg (A : Option Addr) (n c : Nat) (bytes : Int) (w : World) (h : bytes < 0 ∨ 8 < bytes) :
    Calls Tryz.prog 172 #[.slice A n c, .int .i64 bytes] w fun e w' => e = .returned (.tuple #[.int .u64 0, .int .i64 1]) ∧ w = w' := by
  rcases h with h | h
  · go_enter Tryz.func172, Tryz.ntmps172
    go_wp2
    go_ret2
    exact ⟨rfl, rfl⟩
  · have h0 : ¬ bytes < 0 := by omega
    go_enter Tryz.func172, Tryz.ntmps172
    go_wp2
    go_ret2
    exact ⟨rfl, rfl⟩

set_option maxRecDepth 100000 in
set_option maxHeartbeats 400000 in
theorem refGet_short (A : Option Addr) (n c k : Nat) (w : World) (hk : k ≤ 8) (hn : n < k) :
    Calls Tryz.prog 172 #[.slice A n c, .int .i64 (k : Int)] w fun e w' => e = .returned (.tuple #[.int .u64 0, .int .i64 5]) ∧ w = w' := by
  go_enter Tryz.func172, Tryz.ntmps172
  go_wp2
  go_ret2
  exact ⟨rfl, rfl⟩

set_option maxRecDepth 100000 in
set_option maxHeartbeats 1000000 in
theorem refGet_ok (A : Option Addr) (n c k : Nat) (xs : List Nat) (w : World) (hin : In w A n xs) (hb : ∀ x ∈ xs, x < 256) (hk : k ≤ 8) (hn : k ≤ n) :
    Calls Tryz.prog 172 #[.slice A n c, .int .i64 (k : Int)] w fun e w' => e = .returned (.tuple #[.int .u64 (val (xs.take k) : Int), .int .i64 0]) ∧ ∃ q, w' = w.drewN q := by
  have d0 : decide ((k : Int) < 0) = false := by simp
  have d1 : decide (8 < (k : Int)) = false := by simp; omega
  have d2 : decide (n < k) = false := by simp; omega
  have hin' := hin.take hn
  have hbk : ∀ x ∈ xs.take k, x < 256 := fun x hx => hb x (List.mem_of_mem_take hx)
  have HB := Lib.hid hbk
  clear hb hbk hin
  generalize xs.take k = ys at *
  go_enter Tryz.func172, Tryz.ntmps172
  go_wp2
  go_loopw [6, 7] (fun t i wr => ∃ p S : Nat, p ≤ k ∧ i = .int .i64 (p : Int) ∧ t = .int .u64 (S : Int) ∧ val (ys.drop (k - p)) = S ∧ ∃ q, wr = w.drewN q) (fun _ i _ => k - (intOf i).toNat)
  case atStart => exact ⟨0, 0, Nat.zero_le _, rfl, rfl, by rw [Nat.sub_zero, List.drop_of_length_le (by rw [hin'.len]; omega)]; rfl, 0, rfl⟩
  case round =>
    obtain ⟨p, S, hp, rfl, rfl, hS, q, rfl⟩ := hrel
    by_cases hlt : p < k
    · obtain ⟨j, hj⟩ : ∃ j, k - 1 - p = j := ⟨_, rfl⟩
      obtain ⟨ad, x, rfl, hx, hcell⟩ := hin'.at_ (show j < k by omega)
      have hx256 : x < 256 := HB.out x (List.mem_of_getElem? hx)
      obtain ⟨P, hP⟩ : ∃ P, 256 ^ p = P := ⟨_, rfl⟩
      have hPb : P ≤ 72057594037927936 := by
        rw [← hP]
        exact Nat.le_trans (Nat.pow_le_pow_right (by omega) (show p ≤ 7 by omega)) (by decide)
      have hP1 : 1 ≤ P := by rw [← hP]; exact Nat.pow_pos (by omega)
      have hlen : (ys.drop (k - p)).length = p := by rw [List.length_drop, hin'.len]; omega
      have hSb : S < P := by
        have := val_lt (ys.drop (k - p)) (fun y hy => HB.out y (List.mem_of_mem_drop hy))
        rw [hlen, hP, hS] at this
        exact this
      have hS2 : val (ys.drop (k - (p + 1))) = x * P + S := by
        have e : k - (p + 1) + 1 = k - p := by omega
        rw [show j = k - (p + 1) by omega] at hx
        rw [drop_one hx, val_cons, e, hlen, hP, hS]
      have hxP : x * P ≤ 255 * P := Nat.mul_le_mul_right _ (by omega)
      have C1 := Lib.hid (fun W => power_any p P (by omega) hP W)
      have HS2 := Lib.hid hS2
      clear hS2 hS hP hlen hx
      obtain ⟨M, hM⟩ : ∃ M, x * P = M := ⟨_, rfl⟩
      rw [hM] at hxP HS2
      have k1 : IntKind.i64.wrap ((k : Int) - 1) = (k : Int) - 1 := IntWalk.i64_in _ (by omega)
      have k2 : IntKind.i64.wrap ((k : Int) - 1 - (p : Int)) = (j : Int) := by
        rw [show (k : Int) - 1 - (p : Int) = (j : Int) by omega]
        exact IntWalk.i64_in _ (by omega)
      have k3 : (j : Int) < (n : Int) := by omega
      clear hj
      have k6 : IntKind.u64.wrap (x : Int) = (x : Int) := by rw [IntKind.wrap_u64]; omega
      have k7 : IntKind.u64.wrap ((x : Int) * (P : Int)) = (M : Int) := by
        rw [show (x : Int) * (P : Int) = ((x * P : Nat) : Int) from by simp, hM, IntKind.wrap_u64]; omega
      have k8 : IntKind.u64.wrap ((S : Int) + (M : Int)) = (S : Int) + (M : Int) := by rw [IntKind.wrap_u64]; omega
      clear hM
      go_wp2
      go_quiet ((go_at_call 240; exact quiet_again (C1.out _)))
      rw [World.drewN_drewN]
      clear k1 k2 k3 k6 k7 k8
      go_wp2
      go_roundw
      case rel => exact ⟨p + 1, S + M, by omega, by go_num, by go_num, by rw [HS2.out]; omega, q + nq, rfl⟩
      case measure => simp [intOf]; omega
    · obtain rfl : p = k := by omega
      rw [Nat.sub_self, List.drop_zero] at hS
      have HS := Lib.hid hS
      clear hS
      go_wp2
      go_ret2
      exact ⟨by rw [HS.out]; rfl, q, rfl⟩

end Go.Proofs.YthbgcijkpincfaaGreatDoor

/-
  frames.Put.
-/
namespace Go.Proofs.YthbgcijkpincfaaGreatDoor
open Go.RowKit

theorem splice_bytes (ys : List Nat) (k : Nat) (cs : List Nat) : splice (bvs ys) k (bvs cs) = bvs (ys.take k ++ cs ++ ys.drop (k + cs.length)) := by
  unfold splice
  rw [bvs_append, bvs_append, bvs_length]
  simp [bvs, List.map_take, List.map_drop]
theorem made_noughts (m : Nat) : madeCells #[.int .u8 0] m = (bvs (List.replicate m 0)).toArray := by
  apply Array.ext'
  simp only [madeCells, bvs, List.map_replicate, Array.toList_map, Array.toList_range]
  rw [List.eq_replicate_iff]
  refine ⟨by simp, fun b hb => ?_⟩
  obtain ⟨i, _, rfl⟩ := List.mem_map.1 hb
  simp [Nat.mod_one, bv]
theorem In.from_ {W : World} {A : Option Addr} {n : Nat} {xs : List Nat} (h : In W A n xs) : 0 < (bvs xs).length → ∃ ad, A = some ad ∧ ∀ j v, (bvs xs)[j]? = some v → W.cell? (ad.add j) = some v := by
  intro h0
  rw [bvs_length] at h0
  obtain ⟨ad, rfl, _⟩ := h.rd.at_ h0
  refine ⟨ad, rfl, fun j v hv => ?_⟩
  rw [bvs_get] at hv
  obtain ⟨x, hx, rfl⟩ := Option.map_eq_some_iff.1 hv
  obtain ⟨ad', e, hc⟩ := h.rd j x hx
  cases e
  exact hc

/-- 'append(s, l...)' of bytes, s without room for l. -/
theorem wpList_app_grows {ops : Array Oper} {rest : List Oper} {o : Oper} {a : Act} {Q : Exit → Act → World → Prop} (w : World) (hgd : o.guard = none) (s x : Operand)
    (ho : o.op = .call { callee := .builtin .append, args := #[s, x], argTypes := #[50, 50] })
    (A : Option Addr) (n c : Nat) (xs : List Nat) (hs : a.eval s = .slice A n c) (hin : In w A n xs) (hA : A = none → n = 0 ∧ c = 0)
    (ad : Addr) (m c2 : Nat) (ys : List Nat) (hx : a.eval x = .slice (some ad) m c2) (hin2 : In w (some ad) m ys) (hg : c < n + m) (hle : n + m ≤ 140737488355328)
    (h : ∀ A' c' w', w'.ownsRow w.heap.size 5 1 (.slice A' (n + m) c') (n + m) (bvs (xs ++ ys)) → Below w.heap.size w w' → wpList Tryz.prog ops Q rest (a.put o.dst (.slice A' (n + m) c')) w') :
    wpList Tryz.prog ops Q (o :: rest) a w := by
  obtain ⟨i0, hi, hz0, hz1, hz2⟩ := info_parts infoByte
  refine wpList_append_grows w hgd s x 50 ho 5 i0 _ 1 1 Tryz.underlying50 hi hz0 hz1 hz2 rfl (by decide) A n c (bvs xs) hs hA (by rw [bvs_length, hin.len]; simp) ?_ ad m c2 (bvs ys) hx (by rw [bvs_length, hin2.len]; simp) ?_ (bvs_oneCell ys) hg (by unfold maxLen; omega) (by omega) ?_
  · intro b hb j u hu
    rw [bvs_get] at hu
    obtain ⟨y, hy, rfl⟩ := Option.map_eq_some_iff.1 hu
    obtain ⟨ad', e, hc⟩ := hin.rd j y hy
    rw [hb] at e
    cases e
    exact hc
  · intro j u hu
    rw [bvs_get] at hu
    obtain ⟨y, hy, rfl⟩ := Option.map_eq_some_iff.1 hu
    obtain ⟨ad', e, hc⟩ := hin2.rd j y hy
    cases e
    exact hc
  · intro v' w' h2 h3
    rw [← bvs_append] at h2
    obtain ⟨A', c', rfl⟩ := own_form h2
    exact h A' c' w' h2 ((Below.refl _ _).grown h3 (Nat.le_refl _) (fun k hk => by cases hk))
theorem In.lit_ (W : World) (xs : List Nat) (fr : Nat × Nat) : In (W.alloc (.cells (bvs xs).toArray 5 fr)) (some ⟨W.heap.size, 0, none⟩) xs.length xs :=
  ⟨rfl, fun j x hx => ⟨_, rfl, by
    rw [show (⟨W.heap.size, 0, none⟩ : Addr).add j = ⟨W.heap.size, j, none⟩ from by unfold Addr.add; split <;> simp_all]
    rw [cell_of_row _ W.heap.size j _ 5 fr (World.alloc_heap_new W _), List.getElem?_toArray, bvs_get, hx]
    rfl⟩⟩
theorem own_ad {w : World} {base size n : Nat} {A : Option Addr} {c : Nat} {e : TypeId} {xs : List Value} (h : w.ownsRow base e size (.slice A n c) n xs) (hn : 0 < n) : ∃ g, A = some ⟨g, 0, none⟩ := by
  obtain ⟨g, cap, hv⟩ := Joins.ownsRow_form h hn
  injection hv with h1
  exact ⟨g, h1⟩

/-- What Put answers. -/
def PutPost (num : Nat) (xs : List Nat) (n : Nat) (w : World) (e : Ending) (w' : World) : Prop :=
  ∃ A c, e = .returned (.tuple #[.slice A (64 * secs n) c, .int .i64 0]) ∧ w'.ownsRow w.heap.size 5 1 (.slice A (64 * secs n) c) (64 * secs n) (bvs (frameL num xs)) ∧ Below w.heap.size w w'

set_option maxRecDepth 100000 in
theorem put_great (num n c : Nat) (A : Option Addr) (w : World) (h : 256 < n) :
    Calls Tryz.prog 88 #[.int .u64 (num : Int), .slice A n c] w fun e w' => e = .returned (.tuple #[.slice none 0 0, .int .i64 3]) ∧ w = w' := by
  have hi : (256 : Int) < (n : Int) := by omega
  go_enter Tryz.func88, Tryz.ntmps88
  go_wp2_with fail
  go_ret2
  exact ⟨rfl, rfl⟩

set_option maxRecDepth 100000 in
set_option maxHeartbeats 4000000 in
theorem put_frame (num n c : Nat) (A : Option Addr) (xs : List Nat) (w : World) (h : n ≤ 256) (hin : In w A n xs) (hx : ∀ x ∈ xs, x < 256) (hA : A = none → n = 0) (hnc : n ≤ c) :
    Calls Tryz.prog 88 #[.int .u64 (num : Int), .slice A n c] w (PutPost num xs n w) := by
  have hi : ¬ (256 : Int) < (n : Int) := by omega
  have C1 := Lib.hid (fun W => numbers_any num n (by omega) (by omega) W)
  have C2 := Lib.hid (fun (W : World) (hb : Below w.heap.size w W) => sumOf_any num A n c xs W (hin.below hb) hx hA hnc (by omega))
  have C3 := Lib.hid (fun (A1 : Option Addr) (c1 : Nat) (W : World) (hi : In W A1 14 (recMark ++ toldL num n)) => put_any A1 14 c1 (recMark ++ toldL num n) (sumL num xs) 4 4 (kk_nat 4 (by omega)) W hi (by omega))
  have C4 := Lib.hid (fun W => sectors_any n (by omega) W)
  have hmk := fun m (hm : m ≤ 1000) => make_bytes m m (Nat.le_refl _) (by omega)
  have HX := Lib.hid (And.intro hin (And.intro hx hA))
  clear hin hx hA
  have kc := fun (W : World) (C : Array Value) (n c g : Nat) (hg : g = W.heap.size) => Joins.run_convert_bytes_const_at (P := Tryz.prog) W 50 5 C n c g hg Tryz.underlying50 Tryz.underlying5
  go_enter Tryz.func88, Tryz.ntmps88
  go_wp2_with fail
  have i1 : In (w.alloc (.cells #[.int .u8 82, .int .u8 69, .int .u8 67, .int .u8 49] 5 (4, 5))) (some ⟨w.heap.size, 0, none⟩) 4 recMark := In.lit_ w recMark (4, 5)
  have hb1 := below_alloc w (.cells #[.int .u8 82, .int .u8 69, .int .u8 67, .int .u8 49] 5 (4, 5))
  obtain ⟨w1, hw1⟩ : ∃ w1, w.alloc (.cells #[.int .u8 82, .int .u8 69, .int .u8 67, .int .u8 49] 5 (4, 5)) = w1 := ⟨_, rfl⟩
  rw [hw1] at i1 hb1 ⊢
  clear hw1 kc
  have HB1 := Lib.hid hb1
  clear hb1
  obtain ⟨g0, hg0⟩ : ∃ g, w.heap.size = g := ⟨_, rfl⟩
  rw [hg0] at i1 ⊢
  have HG0 := Lib.hid hg0
  clear hg0
  have I1 := Lib.hid i1
  clear i1
  refine (C1.out _).mono ?_
  rintro e w2 ⟨A2, c2, rfl, ho2, hb2⟩
  obtain ⟨g2, rfl⟩ := own_ad ho2 (by omega)
  have H2 := Lib.hid (And.intro (I1.out.below hb2) (And.intro (In.of_own ho2) (below_on HB1.out (Nat.le_refl _) hb2)))
  clear ho2 hb2
  go_wp2_with (at_builtin; refine wpList_app_grows _ rfl (.tmp 12) (.tmp 16) rfl (some ⟨g0, 0, none⟩) 4 4 recMark rfl H2.out.1 (fun e => by cases e) ⟨g2, 0, none⟩ 10 c2 (toldL num n) rfl H2.out.2.1 (by omega) (by omega) ?_; intro A3 c3 w3 ho3 hb3)
  have H3 := Lib.hid (And.intro (show In w3 A3 14 (recMark ++ toldL num n) from In.of_own ho3) (below_on H2.out.2.2 (Nat.le_refl _) hb3))
  clear ho3 hb3
  refine (C2.out _ H3.out.2).mono ?_
  rintro e w4 ⟨rfl, hb4⟩
  have H4 := Lib.hid (And.intro (H3.out.1.below hb4) (below_on H3.out.2 (Nat.le_refl _) hb4))
  clear hb4
  go_wp2_with fail
  refine (C3.out A3 c3 w4 H4.out.1).mono ?_
  rintro e w5 ⟨A5, c5, rfl, ho5, hb5⟩
  have hhd : recMark ++ toldL num n ++ dg (sumL num xs) 4 = headL num xs := by unfold headL; rw [HX.out.1.len]
  rw [hhd] at ho5
  have H5 := Lib.hid (And.intro (show In w5 A5 18 (headL num xs) from In.of_own ho5) (below_on H4.out.2 (Nat.le_refl _) hb5))
  clear ho5 hb5 hhd
  obtain ⟨q, hq⟩ : ∃ q, secs n = q := ⟨_, rfl⟩
  have q1 := secs_ge n
  have q2 := secs_le n h
  rw [hq] at q1 q2 C4
  obtain ⟨L, hL⟩ : ∃ L, 64 * q = L := ⟨_, rfl⟩
  have hLi : 64 * (q : Int) = (L : Int) := by omega
  have hL1 : 18 + n ≤ L := by omega
  have hL2 : L ≤ 320 := by omega
  have hL3 : L % 64 = 0 := by omega
  have HQ := Lib.hid (And.intro hq hL)
  clear hq q1 q2 hL
  have hmk5 := hmk L (by omega) w5
  rw [made_noughts] at hmk5
  have hg6 : (w5.alloc (.cells (bvs (List.replicate L 0)).toArray 5)).heap[w5.heap.size]? = some (.cells (bvs (List.replicate L 0)).toArray 5 (0, 0)) := World.alloc_heap_new w5 _
  have hb6 := below_alloc w5 (.cells (bvs (List.replicate L 0)).toArray 5)
  obtain ⟨w6, hw6⟩ : ∃ w6, w5.alloc (.cells (bvs (List.replicate L 0)).toArray 5) = w6 := ⟨_, rfl⟩
  rw [hw6] at hmk5 hg6 hb6
  clear hw6 hmk
  have hB6 : Hid (Below w.heap.size w w6) := below_on H5.out.2 (Nat.le_refl _) hb6
  have i5 := Lib.hid (H5.out.1.below hb6)
  have hgw : Hid (w.heap.size ≤ w5.heap.size) := H5.out.2.size
  obtain ⟨g6, hgg⟩ : ∃ g, w5.heap.size = g := ⟨_, rfl⟩
  rw [hgg] at hmk5 hg6 hgw
  clear hgg hb6
  obtain ⟨B6, hcut, hB6'⟩ := cut_name (A := some ⟨g6, 0, none⟩) (n := L) (c := L) (k := 18) (by omega)
  rw [if_neg (by omega)] at hB6'
  have hB6'' : B6 = some ⟨g6, 18, none⟩ := by rw [hB6']; rfl
  subst hB6''
  clear hB6'
  obtain ⟨L2, hL4⟩ : ∃ L2, L - 18 = L2 := ⟨_, rfl⟩
  rw [hL4] at hcut
  have HL4 := Lib.hid hL4
  have hcut' : ∀ W : World, (Instr.slice 50 (.slice (some ⟨g6, 0, none⟩) L L) (some (.int .i64 18)) none none).run Tryz.prog W = .ok (.slice (some ⟨g6, 18, none⟩) L2 L2) W := hcut
  clear hcut
  clear hL4
  have hn1 : Hid ((bvs (headL num xs)).length = Nat.min 18 L) := by
    show _ = _
    rw [bvs_length, headL_length]
    exact (Nat.min_eq_left (by omega)).symm
  have hf1 : Hid (0 + (bvs (headL num xs)).length ≤ (bvs (List.replicate L 0)).length) := by
    show _ ≤ _
    rw [bvs_length, headL_length, bvs_length, List.length_replicate]
    omega
  have hc5 : 18 ≤ L := by omega
  have HG6 := Lib.hid hg6
  clear hg6
  go_wp2_with fail
  refine (C4.out _).mono ?_
  rintro e w5' ⟨rfl, rfl⟩
  go_upto_region 7 with (with_reducible refine wpList_copy_splice rfl (.tmp 28) (.tmp 29) 50 50 rfl 5 Tryz.underlying50 sizeByte (some ⟨g6, 0, none⟩) A5 L L 18 c5 rfl rfl g6 0 (bvs (List.replicate L 0)) 5 HG6.out (bvs (headL num xs)) hn1.out (fun h => ⟨rfl, i5.out.from_ h⟩) hf1.out (bvs_oneCell _) w.heap.size w hB6.out hgw.out ?_; intro w7 hw7 hb7)
  have hg7 := hw7.out
  rw [splice_bytes, headL_length] at hg7
  have e7 : List.take 0 (List.replicate L 0) ++ headL num xs ++ List.drop (0 + 18) (List.replicate L 0) = headL num xs ++ List.replicate L2 0 := by
    rw [List.take_zero, List.nil_append, List.drop_replicate, Nat.zero_add, HL4.out]
  rw [e7] at hg7
  have HB7 := Lib.hid hb7
  have i7 := Lib.hid (HX.out.1.below hb7)
  have HG7 := Lib.hid hg7
  have hn2 : Hid ((bvs xs).length = Nat.min n L2) := by
    show _ = _
    have := HL4.out
    rw [bvs_length, HX.out.1.len]
    exact (Nat.min_eq_left (by omega)).symm
  have hf2 : Hid (18 + (bvs xs).length ≤ (bvs (headL num xs ++ List.replicate L2 0)).length) := by
    show _ ≤ _
    have := HL4.out
    rw [bvs_length, HX.out.1.len, bvs_length, List.length_append, headL_length, List.length_replicate]
    omega
  clear hw7 hb7 hg7 e7
  go_wp2_with (with_reducible refine wpList_copy_splice rfl (.tmp 32) (.tmp 33) 50 50 rfl 5 Tryz.underlying50 sizeByte (some ⟨g6, 18, none⟩) A L2 L2 n c rfl rfl g6 18 (bvs (headL num xs ++ List.replicate L2 0)) 5 HG7.out (bvs xs) hn2.out (fun h => ⟨rfl, i7.out.from_ h⟩) hf2.out (bvs_oneCell _) w.heap.size w HB7.out hgw.out ?_; intro w8 hw8 hb8)
  go_ret2
  refine ⟨some ⟨g6, 0, none⟩, L, ?_, ?_, hb8⟩
  · rw [HQ.out.1, HQ.out.2]; rfl
  · have hg8 := hw8.out
    have e8 : List.take 18 (headL num xs ++ List.replicate L2 0) ++ xs ++ List.drop (18 + xs.length) (headL num xs ++ List.replicate L2 0) = frameL num xs := by
      have h1 := HL4.out
      have h2 := HX.out.1.len
      have h3 := HQ.out
      rw [take_append_len _ _ _ (headL_length _ _), ← List.drop_drop, drop_append_len _ _ _ (headL_length _ _), List.drop_replicate, frameL, noug, h2, h3.1, h3.2, h1]
    rw [splice_bytes, e8] at hg8
    rw [HQ.out.1, HQ.out.2]
    have hfl := frameL_length num xs
    rw [HX.out.1.len, HQ.out.1, HQ.out.2] at hfl
    refine ⟨by rw [bvs_length, hfl]; simp, .inr ⟨g6, L, (bvs (frameL num xs)).toArray, rfl, hgw.out, hg8, Nat.le_refl _, by unfold maxLen; omega, ?_, ?_⟩⟩
    · rw [List.size_toArray, bvs_length, hfl]; simp
    · rw [List.take_of_length_le (by rw [bvs_length, hfl]; omega)]

end Go.Proofs.YthbgcijkpincfaaGreatDoor

/-
  almonerref01.Put.
-/
namespace Go.Proofs.YthbgcijkpincfaaGreatDoor
open Go.RowKit

theorem nil_world {P : Program} {f : FuncId} {args : Array Value} {w : World} {v : Value} (h : Calls P f args w fun e w' => e = .returned v ∧ w' = w) : Calls P f args w fun e w' => e = .returned v ∧ w = w' := h.mono fun _ _ ⟨h1, h2⟩ => ⟨h1, h2.symm⟩
theorem dg_take (N k j : Nat) (h : j < k) : (dg N k).take (j + 1) = (dg N k).take j ++ [N / 256 ^ (k - 1 - j) % 256] := take_snoc_of (dg_get N k j h)

set_option maxRecDepth 100000 in
set_option maxHeartbeats 1000000 in
theorem refPut_any (A : Option Addr) (n c : Nat) (xs : List Nat) (N k : Nat) (hk0 : 0 < k) (hk : k ≤ 8) (w : World) (hin : In w A n xs) (hA : A = none → c = 0) (hN : N < 18446744073709551616) (hn : n ≤ 1000000000) :
    Calls Tryz.prog 181 #[.slice A n c, .int .u64 (N : Int), .int .i64 (k : Int)] w (Gives w.heap.size w (n + k) (xs ++ dg N k)) := by
  have hki : (0 : Int) < (k : Int) := by omega
  have HI := Lib.hid hin
  have CP := Lib.hid (fun (p P : Nat) (hp : p ≤ 7) (hP : 256 ^ p = P) (W : World) => power_any p P hp hP W)
  clear hin
  go_enter Tryz.func181, Tryz.ntmps181
  go_wp2_with (at_builtin; refine wpList_app _ rfl (.const (.slice none 0 0)) (.tmp 9) rfl w.heap.size none 0 0 [] rfl (World.ownsRow_nil _ _ _ _) A n c xs rfl HI.out hA (by omega) (Nat.le_refl _) ?_; intro A2 c2 w2 ho2 hb2)
  rw [Nat.zero_add, List.nil_append] at ho2
  have HO2 := Lib.hid (And.intro ho2 hb2)
  clear ho2 hb2
  go_loopw [7, 8] (fun o i wr => ∃ (j : Nat) (z : Int) (A3 : Option Addr) (c3 : Nat), j ≤ k ∧ i = .int .i64 z ∧ z = (k : Int) - 1 - (j : Int) ∧ o = .slice A3 (n + j) c3 ∧ wr.ownsRow w.heap.size 5 1 (.slice A3 (n + j) c3) (n + j) (bvs (xs ++ (dg N k).take j)) ∧ Below w.heap.size w wr) (fun _ i _ => (intOf i + 1).toNat)
  case atStart => exact ⟨0, _, A2, c2, by omega, rfl, by omega, rfl, by rw [List.take_zero, List.append_nil]; exact HO2.out.1, HO2.out.2⟩
  case round =>
    obtain ⟨j, z, A3, c3, hj, rfl, hz, rfl, ho, hb⟩ := hrel
    by_cases hlt : j < k
    · obtain ⟨p, hp⟩ : ∃ p, k - 1 - j = p := ⟨_, rfl⟩
      obtain rfl : z = (p : Int) := by omega
      obtain ⟨P, hP⟩ : ∃ P, 256 ^ p = P := ⟨_, rfl⟩
      have hP0 : 0 < P := by rw [← hP]; exact Nat.pow_pos (by omega)
      obtain ⟨e, he⟩ : ∃ e, N / P = e := ⟨_, rfl⟩
      obtain ⟨d, hd⟩ : ∃ d, e % 256 = d := ⟨_, rfl⟩
      have ht : (dg N k).take (j + 1) = (dg N k).take j ++ [d] := by rw [dg_take N k j hlt, hp, hP, he, hd]
      have q1 : Int.tdiv (N : Int) (P : Int) = (e : Int) := by rw [Int.tdiv_eq_ediv_of_nonneg (by omega), ← he]; simp
      have q2 : Int.tmod (e : Int) 256 = (d : Int) := by rw [Int.tmod_eq_emod_of_nonneg (by omega), ← hd]; simp
      have hd256 : d < 256 := by omega
      have he64 : e < 18446744073709551616 := by rw [← he]; exact Nat.lt_of_le_of_lt (Nat.div_le_self _ _) hN
      have hPne : ((P : Int) == 0) = false := by simp; omega
      have hw64 : IntKind.i64.wrap ((p : Int) - 1) = (p : Int) - 1 := IntWalk.i64_in _ (by omega)
      have CP1 := Lib.hid (CP.out p P (by omega) hP)
      have HO := Lib.hid (And.intro ho hb)
      have HT := Lib.hid ht
      have HZ := Lib.hid hz
      have HP := Lib.hid hp
      clear ho hb ht hP he hd hz hp
      go_wp2_with fail
      refine (nil_world (CP1.out _)).mono ?_
      rintro e2 _ ⟨rfl, rfl⟩
      go_wp2_with (at_builtin; refine wpList_app _ rfl (.tmp 19) (.tmp 26) rfl w.heap.size A3 (n + j) c3 _ rfl (HO.out.1.alloc _) (some ⟨wr.heap.size, 0, none⟩) 1 1 [d] rfl (In.new wr [d]) (fun h => by cases h) (by omega) (by have := HO.out.2.size; simp; omega) ?_; intro A4 c4 w4 ho4 hb4)
      have H4 := Lib.hid (And.intro ho4 ((HO.out.2.alloc HO.out.2.size _).trans hb4))
      clear ho4 hb4
      go_roundw
      case rel => exact ⟨j + 1, _, A4, c4, by omega, rfl, by have := HZ.out; omega, rfl, by rw [HT.out, ← List.append_assoc]; exact H4.out.1, H4.out.2⟩
      case measure => simp [intOf]
    · obtain rfl : j = k := by omega
      have hz1 : z = -1 := by omega
      subst hz1
      rw [take_all] at ho
      have HO := Lib.hid (And.intro ho hb)
      clear ho hb
      go_wp2
      go_ret
      exact ⟨A3, c3, rfl, HO.out.1, HO.out.2⟩

end Go.Proofs.YthbgcijkpincfaaGreatDoor

/-
  almonerref04.On, almonerref04.Of: the document's sum.
-/
namespace Go.Proofs.YthbgcijkpincfaaGreatDoor
open Go.RowKit

set_option maxRecDepth 100000 in
set_option maxHeartbeats 1000000 in
theorem refOn_any (s : Nat) (hs : s < 4294967296) (A : Option Addr) (n c : Nat) (xs : List Nat) (w : World) (hin : In w A n xs) (hx : ∀ x ∈ xs, x < 256) (hn : n ≤ 140737488355328) :
    Calls Tryz.prog 241 #[.int .u32 (s : Int), .slice A n c] w fun e W' => e = .returned (.int .u32 ((onL s xs : Nat) : Int)) ∧ w = W' := by
  obtain ⟨l0, hl0⟩ : ∃ l0, s % 65536 % 65521 = l0 := ⟨_, rfl⟩
  obtain ⟨m0, hm0⟩ : ∃ m0, s / 65536 % 65521 = m0 := ⟨_, rfl⟩
  have e1 : (s : Int) % 65536 % 65521 = (l0 : Int) := by omega
  have e2 : (s : Int) / 65536 % 65521 = (m0 : Int) := by omega
  have hsp : split s = (l0, m0) := by unfold split; rw [hl0, hm0]
  have HS := Lib.hid hsp
  clear hsp hl0 hm0
  go_enter Tryz.func241, Tryz.ntmps241
  go_wp2
  go_loopw [5, 6, 7] (fun l m i wr => ∃ (j : Nat), j ≤ n ∧ i = .int .i64 (j : Int) ∧ l = .int .u32 (((ad (split s) (xs.take j)).1 : Nat) : Int) ∧ m = .int .u32 (((ad (split s) (xs.take j)).2 : Nat) : Int) ∧ w = wr) (fun _ _ i _ => n - (intOf i).toNat)
  case atStart => exact ⟨0, by omega, rfl, by rw [List.take_zero, ad_nil, HS.out, ← e1], by rw [List.take_zero, ad_nil, HS.out, ← e2], rfl⟩
  case round =>
    obtain ⟨j, hj, rfl, rfl, rfl, rfl⟩ := hrel
    have hlt0 := ad_lt (split s).1 (split s).2 (split_lt s).1 (split_lt s).2 (xs.take j)
    by_cases hlt : j < n
    · obtain ⟨ad', x, rfl, hxj, hcell⟩ := hin.at_ hlt
      have hx256 : x < 256 := hx x (List.mem_of_getElem? hxj)
      have tk : ad (split s) (xs.take (j + 1)) = (((ad (split s) (xs.take j)).1 + x) % 65521, ((ad (split s) (xs.take j)).2 + ((ad (split s) (xs.take j)).1 + x) % 65521) % 65521) := by rw [take_snoc_of hxj, ad_snoc]
      obtain ⟨l, hl⟩ : ∃ l, (ad (split s) (xs.take j)).1 = l := ⟨_, rfl⟩
      obtain ⟨m, hm⟩ : ∃ m, (ad (split s) (xs.take j)).2 = m := ⟨_, rfl⟩
      change (ad (split s) (xs.take j)).1 < 65521 ∧ (ad (split s) (xs.take j)).2 < 65521 at hlt0
      rw [hl, hm] at tk hlt0
      rw [hl, hm]
      have HT := Lib.hid tk
      clear tk hl hm hxj e1 e2
      go_wp2
      refine ⟨⟨j + 1, by omega, by go_num, ?_, ?_, trivial⟩, by simp [intOf]; omega⟩
      · rw [HT.out]
        congr 1
      · rw [HT.out]
        congr 1
    · obtain rfl : j = n := by omega
      have hres : onL s xs = two (ad (split s) (xs.take j)) := by rw [List.take_of_length_le (by rw [hin.len]; omega)]; rfl
      unfold two at hres
      change (ad (split s) (xs.take j)).1 < 65521 ∧ (ad (split s) (xs.take j)).2 < 65521 at hlt0
      obtain ⟨l, hl⟩ : ∃ l, (ad (split s) (xs.take j)).1 = l := ⟨_, rfl⟩
      obtain ⟨m, hm⟩ : ∃ m, (ad (split s) (xs.take j)).2 = m := ⟨_, rfl⟩
      rw [hl, hm] at hres hlt0
      rw [hl, hm]
      have HR := Lib.hid hres
      clear hl hm hres
      go_wp2
      go_ret
      rw [HR.out]
      simp

set_option maxRecDepth 100000 in
set_option maxHeartbeats 1000000 in
theorem refOf_any (A : Option Addr) (n c : Nat) (xs : List Nat) (w : World) (hin : In w A n xs) (hx : ∀ x ∈ xs, x < 256) (hn : n ≤ 140737488355328) :
    Calls Tryz.prog 174 #[.slice A n c] w fun e W' => e = .returned (.int .u32 ((ofL xs : Nat) : Int)) ∧ w = W' := by
  have hOn := refOn_any 1 (by decide) A n c xs w hin hx hn
  go_enter Tryz.func174, Tryz.ntmps174
  go_wp2_with fail
  refine hOn.mono ?_
  rintro e w1 ⟨rfl, rfl⟩
  go_wp2_with fail
  go_ret
  exact ⟨rfl, rfl⟩

end Go.Proofs.YthbgcijkpincfaaGreatDoor

/-
  append to one of several rows of the call's own: the others stay as they are.
-/
namespace Go.Proofs.YthbgcijkpincfaaGreatDoor
open Go.RowKit

theorem own_on {w w' : World} {base : Nat} {e : TypeId} {size : Nat} {v : Value} {n : Nat} {xs : List Value} (h : w.ownsRow base e size v n xs) (hb : Below w.heap.size w w') : w'.ownsRow base e size v n xs := by
  refine ⟨h.1, ?_⟩
  rcases h.2 with ⟨e1, h0⟩ | ⟨g, cap, cur, e1, h1, hg, h2⟩
  · exact .inl ⟨e1, h0⟩
  · exact .inr ⟨g, cap, cur, e1, h1, (hb.block g (Array.getElem?_eq_some_iff.1 hg).1).trans hg, h2⟩

/-- Two slices that have no block in common. -/
def Apart (u v : Value) : Prop := ∀ k, u.ownBlock = some k → v.ownBlock ≠ some k
theorem Apart.symm {u v : Value} (h : Apart u v) : Apart v u := fun k hv hu => h k hu hv
theorem apart_nil (u : Value) : Apart u (.slice none 0 0) := fun _ _ h => by cases h

/-- v became v' by an append, w became w'. -/
structure Next (w w' : World) (v v' : Value) : Prop where
  grown : w.grownBy w' v.ownBlock
  at_ : v'.ownBlock = v.ownBlock ∨ v'.ownBlock = some w.heap.size
section
variable {w w' : World} {v v' u : Value} {base : Nat} {e : TypeId} {size n : Nat} {ys : List Value}
theorem Next.keep (h : Next w w' v v') (hu : w.ownsRow base e size u n ys) (ha : Apart v u) : w'.ownsRow base e size u n ys := by
  refine hu.kept h.grown ?_
  cases hk : u.ownBlock with
  | none => exact .inl rfl
  | some k => exact .inr fun e => ha k e.symm hk
theorem Next.apart (h : Next w w' v v') (hu : w.ownsRow base e size u n ys) (ha : Apart v u) : Apart v' u := by
  intro k hk hk2
  rcases h.at_ with e | e
  · exact ha k (e ▸ hk) hk2
  · rw [e] at hk
    cases hk
    have := (hu.lt _ hk2).2
    omega
theorem Next.cell (h : Next w w' v v') {a : Addr} {x : Value} (hc : w.cell? a = some x) (hne : some a.block ≠ v.ownBlock) : w'.cell? a = some x := h.grown.cell hc hne
theorem Next.below {w0 : World} {B : Nat} (h : Next w w' v v') (hv : w.ownsRow base e size v n ys) (hb : Below B w0 w) (hB : B ≤ base) (hs : B ≤ w.heap.size) : Below B w0 w' :=
  hb.grown h.grown hs fun k hk => Nat.le_trans hB (hv.lt k hk).1
end

theorem run_app_at (w : World) (ty : TypeId) (base : Nat) (A : Option Addr) (n c : Nat) (xs : List Nat) (hown : w.ownsRow base 5 1 (.slice A n c) n (bvs xs))
    (A2 : Option Addr) (m c2 : Nat) (ys : List Nat) (hin : In w A2 m ys) (hnil : A2 = none → c2 = 0) (hle : n + m ≤ 140737488355328) (hbase : base ≤ w.heap.size) :
    ∃ A' c' w', (Builtin.append_ #[50, 50] ty #[.slice A n c, .slice A2 m c2]).run Tryz.prog w = .ok (.slice A' (n + m) c') w' ∧
      w'.ownsRow base 5 1 (.slice A' (n + m) c') (n + m) (bvs (xs ++ ys)) ∧ Next w w' (.slice A n c) (.slice A' (n + m) c') := by
  obtain ⟨i0, hi, hz0, hz1, hz2⟩ := info_parts infoByte
  cases A2 with
  | none =>
    obtain rfl := hnil rfl
    have hy : ys = [] := by
      cases ys with
      | nil => rfl
      | cons y ys =>
        obtain ⟨ad, e, _⟩ := hin.rd 0 y rfl
        cases e
    subst hy
    obtain rfl : m = 0 := hin.len.symm
    exact ⟨A, c, w, run_append_owned_none (P := Tryz.prog) (w := w) base 50 ty 5 i0 1 Tryz.underlying50 hi _ n (bvs xs) hown, by simpa using hown, ⟨rfl, rfl, rfl, Nat.le_refl _, fun _ _ _ => rfl⟩, .inl rfl⟩
  | some ad =>
    obtain ⟨v', w', hr, h2, h3, _, h5⟩ := run_append_own_at (P := Tryz.prog) (w := w) base 50 ty 5 i0 _ 1 1 Tryz.underlying50 hi hz0 hz1 hz2 rfl (by decide) _ n (bvs xs) hown ad m c2 (bvs ys) (by rw [bvs_length, hin.len]; simp)
      (fun j u hu => by
        rw [bvs_get] at hu
        obtain ⟨y, hy, rfl⟩ := Option.map_eq_some_iff.1 hu
        obtain ⟨ad', e, hc⟩ := hin.rd j y hy
        cases e
        exact hc) (bvs_oneCell ys) (by unfold maxLen; omega) (by omega) hbase
    rw [← bvs_append] at h2
    obtain ⟨A', c', rfl⟩ := own_form h2
    exact ⟨A', c', w', hr, h2, h3, h5⟩

theorem wpList_app_at {ops : Array Oper} {rest : List Oper} {o : Oper} {a : Act} {Q : Exit → Act → World → Prop} (w : World) (hgd : o.guard = none) (s x : Operand)
    (ho : o.op = .call { callee := .builtin .append, args := #[s, x], argTypes := #[50, 50] })
    (base : Nat) (A : Option Addr) (n c : Nat) (xs : List Nat) (hs : a.eval s = .slice A n c) (hown : w.ownsRow base 5 1 (.slice A n c) n (bvs xs))
    (A2 : Option Addr) (m c2 : Nat) (ys : List Nat) (hx : a.eval x = .slice A2 m c2) (hin : In w A2 m ys) (hnil : A2 = none → c2 = 0) (hle : n + m ≤ 140737488355328) (hbase : base ≤ w.heap.size)
    (h : ∀ A' c' w', w'.ownsRow base 5 1 (.slice A' (n + m) c') (n + m) (bvs (xs ++ ys)) → Next w w' (.slice A n c) (.slice A' (n + m) c') → wpList Tryz.prog ops Q rest (a.put o.dst (.slice A' (n + m) c')) w') :
    wpList Tryz.prog ops Q (o :: rest) a w := by
  refine wpList_plain hgd fun K hK => ?_
  obtain ⟨A', c', w', hr, h2, h3⟩ := run_app_at w o.type base A n c xs hown A2 m c2 ys hin hnil hle hbase
  unfold Oper.wp execOp
  simp only [ho, resolve, invoke, builtin, Sem.run_bind, Sem.run_pure, Result.andThen_ok, List.map_toArray, List.map_cons, List.map_nil, hs, hx, hr]
  exact hK _ _ (h A' c' w' h2 h3)

/-- The same in a region that draws, behind '&&' or not. -/
theorem step_app_at {ops : Array Oper} {o : Oper} {a : Act} {w : World} {K : Act → World → Prop} {Q : Exit → Act → World → Prop} {E : Prop} (hw : Region.wanted o (yielded ops a.tmps) = true) (s x : Operand)
    (ho : o.op = .call { callee := .builtin .append, args := #[s, x], argTypes := #[50, 50] })
    (base : Nat) (A : Option Addr) (n c : Nat) (xs : List Nat) (hs : a.eval s = .slice A n c) (hown : w.ownsRow base 5 1 (.slice A n c) n (bvs xs))
    (A2 : Option Addr) (m c2 : Nat) (ys : List Nat) (hx : a.eval x = .slice A2 m c2) (hin : In w A2 m ys) (hnil : A2 = none → c2 = 0) (hle : n + m ≤ 140737488355328) (hbase : base ≤ w.heap.size)
    (h : ∀ A' c' w', w'.ownsRow base 5 1 (.slice A' (n + m) c') (n + m) (bvs (xs ++ ys)) → Next w w' (.slice A n c) (.slice A' (n + m) c') → K (a.put o.dst (.slice A' (n + m) c')) w') :
    if Region.wanted o (yielded ops a.tmps) = true then Oper.wp Tryz.prog o a w K Q else E := by
  rw [if_pos hw]
  obtain ⟨A', c', w', hr, h2, h3⟩ := run_app_at w o.type base A n c xs hown A2 m c2 ys hin hnil hle hbase
  unfold Oper.wp execOp
  simp only [ho, resolve, invoke, builtin, Sem.run_bind, Sem.run_pure, Result.andThen_ok, List.map_toArray, List.map_cons, List.map_nil, hs, hx, hr]
  exact h A' c' w' h2 h3

end Go.Proofs.YthbgcijkpincfaaGreatDoor

/-
  almonerref06.Put: the document's frame.
-/
namespace Go.Proofs.YthbgcijkpincfaaGreatDoor
open Go.RowKit

/-- What Put answers, of any record. -/
def putRes (num : Nat) (xs : List Nat) : List Nat := if 256 < xs.length then [] else frameL num xs
def putErr (xs : List Nat) : Nat := if 256 < xs.length then 3 else 0
def PutUni (num : Nat) (xs : List Nat) (w : World) (e : Ending) (w' : World) : Prop :=
  ∃ A L c, e = .returned (.tuple #[.slice A L c, .int .i64 (putErr xs : Int)]) ∧ w'.ownsRow w.heap.size 5 1 (.slice A L c) L (bvs (putRes num xs)) ∧ Below w.heap.size w w'

/-- 'append(s, l...)', the length under a name. -/
theorem wpList_app_k {ops : Array Oper} {rest : List Oper} {o : Oper} {a : Act} {Q : Exit → Act → World → Prop} (w : World) (hgd : o.guard = none) (s x : Operand)
    (ho : o.op = .call { callee := .builtin .append, args := #[s, x], argTypes := #[50, 50] })
    (base : Nat) (A : Option Addr) (n c : Nat) (xs : List Nat) (hs : a.eval s = .slice A n c) (hown : w.ownsRow base 5 1 (.slice A n c) n (bvs xs))
    (A2 : Option Addr) (m c2 : Nat) (ys : List Nat) (hx : a.eval x = .slice A2 m c2) (hin : In w A2 m ys) (hnil : A2 = none → c2 = 0) (k : Nat) (hk : n + m = k) (hle : n + m ≤ 140737488355328) (hbase : base ≤ w.heap.size)
    (h : ∀ A' c' w', w'.ownsRow base 5 1 (.slice A' k c') k (bvs (xs ++ ys)) → Next w w' (.slice A n c) (.slice A' k c') → wpList Tryz.prog ops Q rest (a.put o.dst (.slice A' k c')) w') :
    wpList Tryz.prog ops Q (o :: rest) a w := by
  subst hk
  exact wpList_app_at w hgd s x ho base A n c xs hs hown A2 m c2 ys hx hin hnil hle hbase h

def lenOf : Value → Nat
  | .slice _ n _ => n
  | _ => 0

/-- frames.Put of any record. -/
theorem put_uni (num n c : Nat) (A : Option Addr) (xs : List Nat) (w : World) (hin : In w A n xs) (hx : ∀ x ∈ xs, x < 256) (hA : A = none → n = 0) (hnc : n ≤ c) :
    Calls Tryz.prog 88 #[.int .u64 (num : Int), .slice A n c] w (PutUni num xs w) := by
  by_cases h : 256 < n
  · refine (put_great num n c A w h).mono ?_
    rintro e w' ⟨rfl, rfl⟩
    have h' : 256 < xs.length := by rw [hin.len]; exact h
    exact ⟨none, 0, 0, by unfold putErr; rw [if_pos h']; rfl, by unfold putRes; rw [if_pos h']; exact World.ownsRow_nil _ _ _ _, Below.refl _ _⟩
  · refine (put_frame num n c A xs w (by omega) hin hx hA hnc).mono ?_
    rintro e w' ⟨A', c', rfl, ho, hb⟩
    have h' : ¬ 256 < xs.length := by rw [hin.len]; exact h
    exact ⟨A', _, c', by unfold putErr; rw [if_neg h']; rfl, by unfold putRes; rw [if_neg h']; exact ho, hb⟩

set_option maxRecDepth 100000 in
theorem refPutF_great (num n c : Nat) (A : Option Addr) (w : World) (h : 256 < n) :
    Calls Tryz.prog 94 #[.int .u64 (num : Int), .slice A n c] w fun e w' => e = .returned (.tuple #[.slice none 0 0, .int .i64 3]) ∧ w = w' := by
  have hi : (256 : Int) < (n : Int) := by omega
  go_enter Tryz.func94, Tryz.ntmps94
  go_wp2_with fail
  go_ret2
  exact ⟨rfl, rfl⟩

set_option maxRecDepth 100000 in
set_option maxHeartbeats 4000000 in
theorem refPutF_frame (num n c : Nat) (hnum : num < 18446744073709551616) (A : Option Addr) (xs : List Nat) (w : World) (h : n ≤ 256) (hin : In w A n xs) (hx : ∀ x ∈ xs, x < 256) (hA : A = none → c = 0) :
    Calls Tryz.prog 94 #[.int .u64 (num : Int), .slice A n c] w (PutPost num xs n w) := by
  have hi : ¬ (256 : Int) < (n : Int) := by omega
  have hs1 := secs_ge n
  have hs3 := secs_lt n
  obtain ⟨L, hL⟩ : ∃ L, 64 * secs n = L := ⟨_, rfl⟩
  have hL64 : L % 64 = 0 := by omega
  rw [hL] at hs1 hs3
  have HL := Lib.hid hL
  have hL2 : L ≤ 320 := by have := secs_le n h; omega
  clear hL
  have HX := Lib.hid (And.intro hin (And.intro hx hA))
  have C2 := Lib.hid (fun W => refPut_any none 0 0 [] num 8 (by omega) (by omega) W (In.none_ _ _) (fun _ => rfl) hnum (by omega))
  have C3 := Lib.hid (fun (A2 : Option Addr) (c2 : Nat) (W : World) (h : In W A2 8 (dg num 8)) (hnil : A2 = none → c2 = 0) => refPut_any A2 8 c2 (dg num 8) n 2 (by omega) (by omega) W h hnil (by omega) (by omega))
  have C4 := Lib.hid (fun (A2 : Option Addr) (c2 : Nat) (W : World) (h : In W A2 14 (recMark ++ toldL num n)) (hnil : A2 = none → c2 = 0) => refPut_any A2 14 c2 (recMark ++ toldL num n) (sumL num xs) 4 (by omega) (by omega) W h hnil (by have := sumL_lt num xs; omega) (by omega))
  have kc := fun (W : World) (C : Array Value) (n c g : Nat) (hg : g = W.heap.size) => Joins.run_convert_bytes_const_at (P := Tryz.prog) W 50 5 C n c g hg Tryz.underlying50 Tryz.underlying5
  have hwn : IntKind.u64.wrap (n : Int) = (n : Int) := by rw [IntKind.wrap_u64]; omega
  have hwrap : IntKind.u64.wrap ((sumL num xs : Nat) : Int) = ((sumL num xs : Nat) : Int) := by have := sumL_lt num xs; rw [IntKind.wrap_u64]; omega
  clear hin hx hA
  go_enter Tryz.func94, Tryz.ntmps94
  go_wp2_with fail
  refine (C2.out _).mono ?_
  rintro e w3 ⟨A3, c3, rfl, ho3, hb3⟩
  have H3 := Lib.hid (And.intro (show In w3 A3 8 (dg num 8) from In.of_own ho3) (And.intro (own_nil ho3) hb3))
  clear ho3 hb3
  go_wp2_with fail
  refine (C3.out _ _ _ H3.out.1 H3.out.2.1).mono ?_
  rintro e w4 ⟨A4, c4, rfl, ho4, hb4⟩
  obtain ⟨g4, rfl⟩ := own_ad ho4 (by omega)
  have hg4 : g4 < w4.heap.size := (ho4.lt g4 rfl).2
  have O4 := Lib.hid (show w4.ownsRow w3.heap.size 5 1 (.slice (some ⟨g4, 0, none⟩) 10 c4) 10 (bvs (toldL num n)) from ho4)
  have B4 := Lib.hid (H3.out.2.2.trans (hb4.mono H3.out.2.2.size))
  have hb34 := Lib.hid hb4
  clear ho4 hb4
  have i5 : In (w4.alloc (.cells #[.int .u8 82, .int .u8 69, .int .u8 67, .int .u8 49] 5 (4, 5))) (some ⟨w4.heap.size, 0, none⟩) 4 recMark := In.lit_ w4 recMark (4, 5)
  have hb5 := below_alloc w4 (.cells #[.int .u8 82, .int .u8 69, .int .u8 67, .int .u8 49] 5 (4, 5))
  have kc4 := kc w4 #[.int .u8 82, .int .u8 69, .int .u8 67, .int .u8 49] 4 4 w4.heap.size rfl
  have hs5 := World.size_alloc w4 (.cells #[.int .u8 82, .int .u8 69, .int .u8 67, .int .u8 49] 5 (4, 5))
  obtain ⟨w5, hw5⟩ : ∃ w5, w4.alloc (.cells #[.int .u8 82, .int .u8 69, .int .u8 67, .int .u8 49] 5 (4, 5)) = w5 := ⟨_, rfl⟩
  have kc5 : (convert 50 50 (.slice (some ⟨w4.heap.size, 0, none⟩) 4 4)).run Tryz.prog (w4.alloc (.cells #[.int .u8 82, .int .u8 69, .int .u8 67, .int .u8 49] 5)) = .ok (.slice (some ⟨w4.heap.size, 0, none⟩) 4 4) w5 := by
    rw [← hw5]; exact kc4
  rw [hw5] at i5 hb5 hs5
  have B5 : Hid (Below w.heap.size w w5) := below_on B4.out (Nat.le_refl _) hb5
  have I5 := Lib.hid (And.intro i5 (And.intro ((In.of_own O4.out).below hb5) (own_on O4.out hb5)))
  have S5 := Lib.hid hs5
  clear i5 hb5 hw5 kc kc4 hs5
  obtain ⟨h1, hh1⟩ : ∃ h, 18 + n = h := ⟨_, rfl⟩
  obtain ⟨h2, hh2⟩ : ∃ h2, 10 + n = h2 := ⟨_, rfl⟩
  go_upto_region 5 with (at_builtin; refine wpList_app_grows w5 rfl (.tmp 18) (.tmp 19) rfl (some ⟨w4.heap.size, 0, none⟩) 4 4 recMark rfl I5.out.1 (fun e => by cases e) ⟨g4, 0, none⟩ 10 c4 (toldL num n) rfl I5.out.2.1 (by omega) (by omega) ?_; intro A6 c6 w6 ho6 hb6)
  obtain ⟨g6, rfl⟩ := own_ad ho6 (by omega)
  have hg6 : w5.heap.size ≤ g6 := (ho6.lt g6 rfl).1
  have O6 := Lib.hid (show w6.ownsRow w5.heap.size 5 1 (.slice (some ⟨g6, 0, none⟩) 14 c6) 14 (bvs (recMark ++ toldL num n)) from ho6)
  have B6 : Hid (Below w.heap.size w w6) := below_on B5.out (Nat.le_refl _) hb6
  have P6 := Lib.hid (own_on I5.out.2.2 hb6)
  have hap : Hid (Apart (.slice (some ⟨g4, 0, none⟩) 10 c4) (.slice (some ⟨g6, 0, none⟩) 14 c6)) := fun k h1 h2 => by
    have e1 : g4 = k := by injection h1
    have e2 : g6 = k := by injection h2
    have := S5.out
    omega
  have hsz : Hid (w3.heap.size ≤ w6.heap.size) := Nat.le_trans (Nat.le_trans hb34.out.size (by have := S5.out; omega)) hb6.size
  have J6 := Lib.hid (HX.out.1.below B6.out)
  clear ho6 hb6 hg6
  have hsum : ofL (toldL num n ++ xs) = sumL num xs := by unfold sumL; rw [HX.out.1.len]
  have HSUM := Lib.hid hsum
  have hhead : recMark ++ toldL num n ++ dg (sumL num xs) 4 = headL num xs := by unfold headL; rw [HX.out.1.len]
  have HHEAD := Lib.hid hhead
  clear hsum hhead kc5 hg4
  obtain ⟨su, hsu⟩ : ∃ su, sumL num xs = su := ⟨_, rfl⟩
  rw [hsu] at C4 hwrap HSUM HHEAD
  clear hsu
  go_wp2_with (at_builtin; refine wpList_app_k w6 rfl (.tmp 22) (.tmp 23) rfl w3.heap.size (some ⟨g4, 0, none⟩) 10 c4 (toldL num n) rfl P6.out A n c xs rfl J6.out HX.out.2.2 h2 hh2 (by omega) hsz.out ?_; intro A7 c7 w7 ho7 hn7)
  have B7 : Hid (Below w.heap.size w w7) := hn7.below P6.out B6.out H3.out.2.2.size B6.out.size
  have O7 := Lib.hid (hn7.keep O6.out hap.out)
  have C7 := Lib.hid (refOf_any A7 h2 c7 (toldL num n ++ xs) w7 (In.of_own ho7) (bytes_append (toldL_lt _ _) HX.out.2.1) (by omega))
  rw [HSUM.out] at C7
  clear ho7 hn7
  refine C7.out.mono ?_
  rintro e w8 ⟨rfl, rfl⟩
  go_wp2_with fail
  refine (C4.out _ _ _ (In.of_own O7.out) (fun e => by cases e)).mono ?_
  rintro e w9 ⟨A9, c9, rfl, ho9, hb9⟩
  rw [HHEAD.out] at ho9
  have O9 := Lib.hid (show w9.ownsRow w7.heap.size 5 1 (.slice A9 18 c9) 18 (bvs (headL num xs)) from ho9)
  have B9 : Hid (Below w.heap.size w w9) := below_on B7.out (Nat.le_refl _) hb9
  have J9 := Lib.hid (HX.out.1.below B9.out)
  have S9 : Hid (w7.heap.size ≤ w9.heap.size) := hb9.size
  clear ho9 hb9
  go_wp2_with (at_builtin; refine wpList_app_k w9 rfl (.tmp 28) (.tmp 29) rfl w7.heap.size A9 18 c9 (headL num xs) rfl O9.out A n c xs rfl J9.out HX.out.2.2 h1 hh1 (by omega) S9.out ?_; intro A10 c10 w10 ho10 hn10)
  have B10 : Hid (Below w.heap.size w w10) := hn10.below O9.out B9.out B7.out.size B9.out.size
  have O10 : Hid (w10.ownsRow w.heap.size 5 1 (.slice A10 h1 c10) h1 (bvs (headL num xs ++ xs))) := own_low ho10 B7.out.size
  clear ho10 hn10
  go_loopw [7] (fun o wr => ∃ (t : Nat) (A' : Option Addr) (c' : Nat), h1 ≤ t ∧ t ≤ L ∧ o = .slice A' t c' ∧ wr.ownsRow w.heap.size 5 1 (.slice A' t c') t (bvs (headL num xs ++ xs ++ List.replicate (t - h1) 0)) ∧ Below w.heap.size w wr) (fun o _ => L - lenOf o)
  case atStart => exact ⟨h1, A10, c10, Nat.le_refl _, by omega, rfl, by rw [Nat.sub_self, List.replicate_zero, List.append_nil]; exact O10.out, B10.out⟩
  case round =>
    obtain ⟨t, A', c', ht1, ht2, rfl, ho, hb⟩ := hrel
    obtain ⟨r, hr⟩ : ∃ r, t % 64 = r := ⟨_, rfl⟩
    have hrt : Int.tmod (t : Int) 64 = (r : Int) := by rw [Int.tmod_eq_emod_of_nonneg (by omega), ← hr]; simp
    have HO := Lib.hid (And.intro ho hb)
    clear ho hb
    by_cases hlt : t < L
    · have hrn : ((r : Int) != 0) = true := by simp; omega
      have hnx : Hid (headL num xs ++ xs ++ List.replicate (t + 1 - h1) 0 = headL num xs ++ xs ++ List.replicate (t - h1) 0 ++ [0]) := by
        show _ = _
        rw [show t + 1 - h1 = (t - h1) + 1 by omega, List.replicate_succ', ← List.append_assoc]
      clear hr
      go_wp2_with (at_builtin; refine wpList_app_k _ rfl (.tmp 35) (.tmp 36) rfl w.heap.size A' t c' _ rfl (HO.out.1.alloc _) (some ⟨wr.heap.size, 0, none⟩) 1 1 [0] rfl (In.new wr [0]) (fun h => by cases h) (t + 1) rfl (by omega) (by have := HO.out.2.size; simp; omega) ?_; intro A4 c4 w4 ho4 hn4)
      have H4 := Lib.hid (And.intro ho4 (hn4.below (HO.out.1.alloc _) (HO.out.2.alloc HO.out.2.size _) (Nat.le_refl _) (by have := HO.out.2.size; simp; omega)))
      clear ho4 hn4
      go_roundw
      case rel => exact ⟨t + 1, A4, c4, by omega, by omega, rfl, by rw [hnx.out]; exact H4.out.1, H4.out.2⟩
      case measure => simp [lenOf]; omega
    · obtain rfl : t = L := by omega
      have hr0 : r = 0 := by omega
      subst hr0
      clear hr
      go_wp2_with fail
      go_ret2
      refine ⟨A', c', by rw [HL.out]; rfl, ?_, HO.out.2⟩
      have hf : frameL num xs = headL num xs ++ xs ++ List.replicate (t - h1) 0 := by
        unfold frameL noug
        rw [HX.out.1.len, HL.out, show t - 18 - n = t - h1 by omega]
      rw [HL.out, hf]
      exact HO.out.1

theorem refPut_uni (num n c : Nat) (hnum : num < 18446744073709551616) (A : Option Addr) (xs : List Nat) (w : World) (hin : In w A n xs) (hx : ∀ x ∈ xs, x < 256) (hA : A = none → c = 0) :
    Calls Tryz.prog 94 #[.int .u64 (num : Int), .slice A n c] w (PutUni num xs w) := by
  by_cases h : 256 < n
  · refine (refPutF_great num n c A w h).mono ?_
    rintro e w' ⟨rfl, rfl⟩
    have h' : 256 < xs.length := by rw [hin.len]; exact h
    exact ⟨none, 0, 0, by unfold putErr; rw [if_pos h']; rfl, by unfold putRes; rw [if_pos h']; exact World.ownsRow_nil _ _ _ _, Below.refl _ _⟩
  · refine (refPutF_frame num n c hnum A xs w (by omega) hin hx hA).mono ?_
    rintro e w' ⟨A', c', rfl, ho, hb⟩
    have h' : ¬ 256 < xs.length := by rw [hin.len]; exact h
    exact ⟨A', _, c', by unfold putErr; rw [if_neg h']; rfl, by unfold putRes; rw [if_neg h']; exact ho, hb⟩

end Go.Proofs.YthbgcijkpincfaaGreatDoor

/-
  The document's own store: bytes.
-/
namespace Go.Proofs.YthbgcijkpincfaaGreatDoor
open Go.RowKit

section
variable {w : World} {g gd from_ many : Nat} {F G : Nat → Prop} {l : List (List Nat)} {st : St}
theorem flat_snoc {T : List (List Nat)} {j : Nat} {s : List Nat} (h : T[j]? = some s) : (T.take (j + 1)).flatten = (T.take j).flatten ++ s := by
  rw [List.take_add_one, h, List.flatten_append]; simp

set_option maxRecDepth 100000 in
set_option maxHeartbeats 2000000 in
theorem rbytes_any (h : RSto w g gd from_ many G l) (hd : RDisk w gd F st) (hm : from_ + many ≤ st.sure.length) :
    Calls Tryz.prog 74 #[.pointer (some ⟨g, 0, none⟩), .int .i64 0] w fun e w' => ∃ A c, e = .returned (.slice A (64 * many) c) ∧
      w'.ownsRow w.heap.size 5 1 (.slice A (64 * many) c) (64 * many) (bvs (regionL st.read from_ many).flatten) ∧ Below w.heap.size w w' := by
  obtain ⟨⟨v, vals, h⟩, _⟩ := h
  have c0 := h.c0
  have c1 := h.c1
  have c2 := h.c2
  have hg := h.lt
  have hle := hd.1.le
  have hm4 : many ≤ 4096 := by omega
  have hf4 : from_ ≤ 4096 := by omega
  have HR : Hid (∀ k, k < many → ∃ xs, (regionL st.read from_ many)[k]? = some xs ∧ Sec xs ∧ ∀ W, Below w.heap.size w W → Calls Tryz.prog 96 #[.pointer (some ⟨gd, 0, none⟩), .int .i64 ((from_ + k : Nat) : Int)] W fun e w' => ∃ A c, e = .returned (.tuple #[.slice A 64 c, .int .i64 0]) ∧ In w' A 64 xs ∧ Below W.heap.size W w') := by
    intro k hk
    obtain ⟨xs, hx⟩ : ∃ xs, st.read[from_ + k]? = some xs := ⟨_, List.getElem?_eq_getElem (by rw [st.read_length]; omega)⟩
    exact ⟨xs, by rw [regionL_get hk]; exact hx, hd.1.read xs (List.mem_of_getElem? hx), fun W hb => rread_any hx (hd.below hb)⟩
  have HL : Hid ((regionL st.read from_ many).length = many) := regionL_length (by rw [st.read_length]; exact hm)
  obtain ⟨T, hT⟩ : ∃ T, regionL st.read from_ many = T := ⟨_, rfl⟩
  rw [hT] at HR HL ⊢
  clear h hd hle hm hT
  go_enter Tryz.func74, Tryz.ntmps74
  go_wp2_with fail
  go_loopw [5, 6] (fun b i wr => ∃ (j n : Nat) (A : Option Addr) (c : Nat), j ≤ many ∧ n = 64 * j ∧ i = .int .i64 (j : Int) ∧ b = .slice A n c ∧ wr.ownsRow w.heap.size 5 1 (.slice A n c) n (bvs (T.take j).flatten) ∧ Below w.heap.size w wr) (fun _ i _ => many - (intOf i).toNat)
  case atStart => exact ⟨0, 0, none, 0, Nat.zero_le _, rfl, rfl, rfl, World.ownsRow_nil _ _ _ _, (Below.refl _ w)⟩
  case round =>
    obtain ⟨j, n, A, c, hj, hn, rfl, rfl, ho, hb⟩ := hrel
    have c0 := (hb.cell hg).trans c0
    have c1 := (hb.cell hg).trans c1
    have c2 := (hb.cell hg).trans c2
    have HB := Lib.hid hb
    have HO := Lib.hid ho
    have HN := Lib.hid hn
    have hn4 : n ≤ 262144 := by omega
    clear hb ho hn
    by_cases hlt : j < many
    · have hji : (j : Int) < (many : Int) := by omega
      obtain ⟨xs, hx⟩ := HR.out j hlt
      have ew : IntKind.i64.wrap ((from_ : Int) + (j : Int)) = ((from_ + j : Nat) : Int) := by rw [IntKind.wrap_i64]; omega
      have hx1 := Lib.hid hx
      clear hx
      go_wp2_with fail
      go_region_held3 (fun W' => W'.cell? ⟨g, 0, none⟩ = some (.pointer (some ⟨gd, 0, none⟩)) ∧ W'.cell? ⟨g, 1, none⟩ = some (.int .i64 (from_ : Int))) (first | exact ⟨c0, c1⟩) (first | (go_at_call 96; refine (hx1.out.2.2 _ (HB.out.drew)).mono ?_; rintro e w1 ⟨A1, k1, rfl, hin, hb1⟩; have c0 := (hb1.cell (Nat.lt_of_lt_of_le hg HB.out.size)).trans c0; have c1 := (hb1.cell (Nat.lt_of_lt_of_le hg HB.out.size)).trans c1))
      have HB1 : Hid (Below w.heap.size w w1) := below_on HB.out.drew (Nat.le_refl _) hb1
      have HO1 := own_on HO.out (show Below wr.heap.size wr w1 from below_on ((Below.refl _ wr).drew) (Nat.le_refl _) hb1)
      have hl := hx1.out.2.1.1
      obtain ⟨ad, _, rfl, _⟩ := hin.at_ (show 0 < 64 by omega)
      have HI := Lib.hid hin
      have hs := HB1.out.size
      clear c0 c1 c2 hb1 hin
      go_wp2_with (at_builtin; refine wpList_app_k w1 rfl _ _ rfl w.heap.size A n c (T.take j).flatten rfl HO1 (some ad) 64 k1 xs rfl HI.out (fun e => by cases e) (n + 64) rfl (by omega) hs ?_; intro A2 c3 w2 ho2 hn2)
      go_roundw
      case rel => exact ⟨j + 1, n + 64, A2, c3, by omega, by have := HN.out; omega, by go_num, rfl, by rw [flat_snoc hx1.out.1]; exact ho2, hn2.below HO1 HB1.out (Nat.le_refl _) hs⟩
      case measure => simp [intOf]; omega
    · obtain rfl : j = many := by omega
      have hji : ¬ (j : Int) < (j : Int) := by omega
      go_wp2_with fail
      go_ret
      have h1 := HO.out
      have hl := HL.out
      rw [List.take_of_length_le (by omega), HN.out] at h1
      rw [HN.out]
      exact ⟨_, _, rfl, h1, HB.out⟩
end

end Go.Proofs.YthbgcijkpincfaaGreatDoor

/-
  slices.Chunk of sectors: pieces of 64 bytes, one behind the other.
-/
namespace Go.Proofs.YthbgcijkpincfaaGreatDoor
open Go.RowKit Go.Shelf

attribute [local go_sem] Oper.semAt_some

/-- Piece number k. -/
def pk (a : Addr) (k : Nat) : Value := .slice (some (a.add (64 * k))) 64 64

set_option maxRecDepth 100000 in
set_option maxHeartbeats 400000 in
/-- Chunk hands back a function value that has captured both boxes. -/
theorem chunk64_in (F : Fence) (m : Nat) (hf : F.fn 246) (hro : F.round = none) (A : Option Addr) (n c : Nat) (w : World) :
    CallsIn F m Tryz.prog 246 #[.slice A n c, .int .i64 64] w fun e w' =>
      e = .returned (.func (.func 279) #[] #[.pointer (some ⟨w.heap.size, 0, none⟩), .pointer (some ⟨w.heap.size + 1, 0, none⟩)]) ∧
      (w.alloc (.cells #[.slice A n c] 50)).alloc (.cells #[.int .i64 64] 3) = w' := by
  refine callsIn_of_wp Tryz.func246 rfl hf ?_ hro
  simp only [Tryz.ntmps246, List.size_toArray, List.length_cons, List.length_nil, Nat.reduceAdd, Nat.reduceSub, Array.replicate_succ, Array.replicate_zero, List.push_toArray, List.append_toArray, List.nil_append, List.cons_append]
  gi_wp2
  go_ret
  exact ⟨rfl, rfl⟩

/-- Both boxes hold what the iterator has captured. -/
def Boxes (Bs Bn n c : Nat) (a : Addr) (W : World) : Prop := Boxed W Bs 50 (.slice (some a) n c) ∧ Boxed W Bn 3 (.int .i64 64)

set_option maxRecDepth 100000 in
set_option maxHeartbeats 1000000 in
theorem chunk64_seq (F : Fence) (m : Nat) (hf : F.fn 279) (hro : F.round = none) (hm : 1 ≤ m) (Bs Bn q c : Nat) (a : Addr) (hnc : 64 * q ≤ c) (hc : q ≤ 1000) (W : World) (hb : Boxes Bs Bn (64 * q) c a W) :
    SeqR F m Tryz.prog 279 #[] #[.pointer (some ⟨Bs, 0, none⟩), .pointer (some ⟨Bn, 0, none⟩)] (fun x : Nat => #[pk a x]) (fun _ => False) (fun pre x _ => pre = List.range x ∧ x < q) (fun _ W => Boxes Bs Bn (64 * q) c a W)
      (fun xs _ => xs = List.range q) (fun pre _ => ∃ k, k < q ∧ pre = List.range (k + 1)) W := by
  intro l J Jx hJ _ hY h0
  refine callsIn_of_wp Tryz.func279 rfl hf ?_ hro
  simp only [Tryz.ntmps279, List.size_toArray, List.length_cons, List.length_nil, Nat.reduceAdd, Nat.reduceSub, Array.replicate_succ, Array.replicate_zero, List.push_toArray, List.append_toArray, List.nil_append, List.cons_append]
  gi_wp2
  gi_loopw [4] (fun i wr => ∃ (k : Nat), k ≤ q ∧ i = .int .i64 ((64 * k : Nat) : Int) ∧ J (List.range k) wr ∧ Boxes Bs Bn (64 * q) c a wr)
    (fun i _ => q * 64 - (intOf i).toNat)
  case atStart =>
    exact ⟨0, Nat.zero_le _, rfl, h0, hb⟩
  case round =>
    obtain ⟨k, hk, rfl, hJs, bs, bn⟩ := hrel
    have cs := bs.cell
    have cn := bn.cell
    by_cases hlt : k < q
    · have hJd : J (List.range k) wr.drew := hJ _ _ _ none hJs ⟨rfl, rfl, rfl, Nat.le_refl _, fun _ _ _ => rfl⟩ (fun r e => by cases e)
      obtain ⟨fn, tmps, assign, body, hy, hR⟩ := hY (List.range k) k wr.drew hJd ⟨rfl, hlt⟩
      obtain ⟨n, hn⟩ : ∃ n, 64 * q = n := ⟨_, rfl⟩
      obtain ⟨p, hp⟩ : ∃ p, 64 * k = p := ⟨_, rfl⟩
      have hn9 : n ≤ 64000 := by omega
      obtain ⟨e, he⟩ : ∃ e, 64 = e := ⟨_, rfl⟩
      have h1 : p + e ≤ n := by omega
      have e2 : 0 < e := by omega
      have e3 : e ≤ 64 := by omega
      have hpn : p < n := by omega
      have hcks : pk a k = .slice (some (a.add p)) e e := by rw [← hp, ← he]; rfl
      rw [hcks] at hy
      rw [hn] at bs cs hnc ⊢
      rw [hp] at ⊢
      obtain ⟨B, hcut, _⟩ := cut_name (A := some a) (n := n) (c := c) (k := p) (by omega)
      obtain ⟨t, ht⟩ : ∃ t, t = n - p := ⟨_, rfl⟩
      rw [← ht] at hcut
      have hif : (if (t : Int) < 64 then (t : Int) else 64) = (e : Int) := by rw [if_neg (by omega)]; omega
      have hcut2 := fun W => cut_piece (a := a) (p := p) (e := e) hnc h1 (by omega) W
      have HE := Lib.hid he
      have HP := Lib.hid hp
      have HQ := Lib.hid ht
      have HN := Lib.hid hn
      clear hp ht hcks hn he
      gi_wp2
      gi_region
      all_goals
        gi_wp2
        refine hR.mono ?_
        rintro e W3 (⟨rfl, hJ3, hk3⟩ | ⟨rfl, hJx3⟩)
        · have bs3 := hk3.1.1
          have bn3 := hk3.1.2
          have cn3 := bn3.cell
          gi_wp2
          go_roundw
          case rel => exact ⟨k + 1, by omega, by rw [show ((64 * (k + 1) : Nat) : Int) = (p : Int) + 64 from by have := HP.out; omega], by rw [List.range_succ]; exact hJ3, by rw [← HN.out]; exact bs3, bn3⟩
          case measure => simp [intOf]; have := HP.out; omega
        · gi_wp2
          refine bodyPost_ret (results_none rfl _ _ _) rfl ?_
          exact ⟨⟨_, rfl⟩, .inr ⟨List.range k ++ [k], ⟨k, hlt, by rw [List.range_succ]⟩, hJx3.1⟩⟩
    · obtain rfl : k = q := by omega
      have h1 : ¬ ((64 * k : Nat) : Int) < ((64 * k : Nat) : Int) := by omega
      gi_wp2
      go_end0
      exact ⟨⟨_, rfl⟩, .inl hJs⟩

end Go.Proofs.YthbgcijkpincfaaGreatDoor

/-
  writeOthers: each sector of a frame but the first one.
-/
namespace Go.Proofs.YthbgcijkpincfaaGreatDoor
open Go.RowKit Go.Shelf

attribute [local go_sem] Oper.semAt_some

theorem But.next {S T : Nat → Prop} {a b c : World} (h : But S a b) (k : But T b c) (hT : ∀ x, x < a.heap.size → T x → S x) : But S a c :=
  ⟨k.os.trans h.os, k.tape.trans h.tape, k.output.trans h.output, Nat.le_trans h.size k.size, fun i hi hn => (k.block i (Nat.lt_of_lt_of_le hi h.size) (fun e => hn (hT i hi e))).trans (h.block i hi hn)⟩
theorem in_but {S : Nat → Prop} {w w' : World} {A : Option Addr} {n : Nat} {xs : List Nat} (h : In w A n xs) (hb : But S w w') (hA : ∀ ad, A = some ad → ¬ S ad.block) : In w' A n xs := ⟨h.len, fun j x hx => by
  obtain ⟨ad, e, hc⟩ := h.rd j x hx
  refine ⟨ad, e, (World.cell?_of_block (hb.block _ (World.block_lt_of_cell? w _ hc) ?_)).trans hc⟩
  rw [block_add]; exact hA ad e⟩

theorem alloc_at (w : World) (o : Obj) (i : Nat) (h : i < w.heap.size) : (w.alloc o).heap[i]? = w.heap[i]? := by
  show (w.heap.push o)[i]? = w.heap[i]?
  rw [Array.getElem?_push_lt h, Array.getElem?_eq_getElem h]
theorem alloc5 (w : World) (o1 o2 o3 o4 o5 : Obj) : (((((w.alloc o1).alloc o2).alloc o3).alloc o4).alloc o5).heap[w.heap.size]? = some o1 ∧ (((((w.alloc o1).alloc o2).alloc o3).alloc o4).alloc o5).heap[w.heap.size + 1]? = some o2 ∧
    (((((w.alloc o1).alloc o2).alloc o3).alloc o4).alloc o5).heap[w.heap.size + 2]? = some o3 ∧ (((((w.alloc o1).alloc o2).alloc o3).alloc o4).alloc o5).heap[w.heap.size + 3]? = some o4 ∧ (((((w.alloc o1).alloc o2).alloc o3).alloc o4).alloc o5).heap[w.heap.size + 4]? = some o5 := by
  have n2 := heap_alloc_new (w.alloc o1) o2
  have n3 := heap_alloc_new ((w.alloc o1).alloc o2) o3
  have n4 := heap_alloc_new (((w.alloc o1).alloc o2).alloc o3) o4
  have n5 := heap_alloc_new ((((w.alloc o1).alloc o2).alloc o3).alloc o4) o5
  simp only [World.size_alloc, Nat.add_assoc, Nat.reduceAdd] at n2 n3 n4 n5
  refine ⟨?_, ?_, ?_, ?_, n5⟩
  · rw [alloc_at _ _ _ (by simp <;> omega), alloc_at _ _ _ (by simp <;> omega), alloc_at _ _ _ (by simp <;> omega), alloc_at _ _ _ (by simp), heap_alloc_new]
  · rw [alloc_at _ _ _ (by simp <;> omega), alloc_at _ _ _ (by simp <;> omega), alloc_at _ _ _ (by simp), n2]
  · rw [alloc_at _ _ _ (by simp <;> omega), alloc_at _ _ _ (by simp), n3]
  · rw [alloc_at _ _ _ (by simp), n4]
/-- What holds between two sectors that are written. -/
structure Oth (w : World) (gd g0 at_ q c : Nat) (a : Addr) (F : Nat → Prop) (u : Value) (to_ : Nat) (res : Int) (st : St) (W : World) : Prop where
  disk : ∃ F', Disk W gd F' st ∧ CellsIn F' W ∧ ∀ x, F' x → F x ∨ g0 + 5 ≤ x
  but : But F w W
  size : g0 + 5 ≤ W.heap.size
  box : W.heap[g0]? = some (.cells #[.pointer (some ⟨gd, 0, none⟩), .int .i64 (at_ : Int), u] 147 (0, 0))
  res : Boxed W (g0 + 1) 27 (.int .i64 res)
  to_ : Boxed W (g0 + 2) 3 (.int .i64 (to_ : Int))
  bs : Boxes (g0 + 3) (g0 + 4) (64 * q) c a W

theorem flat_piece {T : List (List Nat)} (h : ∀ s ∈ T, s.length = 64) {k : Nat} {xs : List Nat} (hk : T[k]? = some xs) : (T.flatten.drop (64 * k)).take 64 = xs := by
  induction T generalizing k with
  | nil => simp at hk
  | cons s T ih =>
    have hs := h s (by simp)
    cases k with
    | zero =>
      simp at hk
      subst hk
      rw [List.flatten_cons, Nat.mul_zero, List.drop_zero, List.take_append_of_le_length (by omega), List.take_of_length_le (by omega)]
    | succ k =>
      rw [List.getElem?_cons_succ] at hk
      rw [List.flatten_cons, show 64 * (k + 1) = s.length + 64 * k by omega, ← List.drop_drop, List.drop_left]
      exact ih (fun t ht => h t (by simp [ht])) hk

section
variable {w W W' : World} {gd g0 at_ q c : Nat} {a : Addr} {F : Nat → Prop} {u : Value} {to_ : Nat} {res : Int} {st : St}
theorem Oth.step {row : Option Nat} (hw : w.heap.size = g0) (h : Oth w gd g0 at_ q c a F u to_ res st W) (hg : W.grownBy W' row) (hr : ∀ r, row = some r → g0 + 5 ≤ r ∧ ∃ o : Obj, W.heap[r]? = some o ∧ o.isCells = false) : Oth w gd g0 at_ q c a F u to_ res st W' := by
  obtain ⟨F', hd, hc, hf⟩ := h.disk
  have hr2 := fun r e => (hr r e).2
  have := hd.step hc hg hr2
  exact ⟨⟨F', this.1, this.2, hf⟩, h.but.step hg (fun r e => by have := (hr r e).1; omega), Nat.le_trans h.size hg.size, row_step h.box hg hr2, Boxed.step h.res hg hr2, Boxed.step h.to_ hg hr2, Boxed.step h.bs.1 hg hr2, Boxed.step h.bs.2 hg hr2⟩
theorem Oth.set (hw : w.heap.size = g0) (hF : ∀ x, F x → x < w.heap.size) (h : Oth w gd g0 at_ q c a F u to_ res st W) (t : Nat) : Oth w gd g0 at_ q c a F u t res st (W.setCell ⟨g0 + 2, 0, none⟩ (.int .i64 (t : Int))) := by
  have hb : ∀ x, x ≠ g0 + 2 → (W.setCell ⟨g0 + 2, 0, none⟩ (.int .i64 (t : Int))).heap[x]? = W.heap[x]? := fun x hx => Below.heap_setCell _ _ _ _ hx
  have hs : (W.setCell ⟨g0 + 2, 0, none⟩ (.int .i64 (t : Int))).heap.size = W.heap.size := by simp [World.setCell]
  obtain ⟨F', hd, hc, hf⟩ := h.disk
  have hne : ∀ x, F' x → x ≠ g0 + 2 := fun x hx => by rcases hf x hx with e | e; have := hF x e; omega; omega
  have bt : But (fun x => x = g0 + 2) W (W.setCell ⟨g0 + 2, 0, none⟩ (.int .i64 (t : Int))) := (But.refl _ W).set 0 _ (fun _ => rfl)
  refine ⟨⟨F', hd.but bt hne, fun x hx => ?_, hf⟩, h.but.set 0 _ (fun e => by omega), by rw [hs]; exact h.size, (hb g0 (by omega)).trans h.box, (hb _ (by omega)).trans h.res, h.to_.set _, (hb _ (by omega)).trans h.bs.1, (hb _ (by omega)).trans h.bs.2⟩
  obtain ⟨c, t', f, e⟩ := hc x hx
  exact ⟨c, t', f, (hb x (hne x hx)).trans e⟩
theorem Oth.setRes (hw : w.heap.size = g0) (hF : ∀ x, F x → x < w.heap.size) (h : Oth w gd g0 at_ q c a F u to_ res st W) (t : Int) : Oth w gd g0 at_ q c a F u to_ t st (W.setCell ⟨g0 + 1, 0, none⟩ (.int .i64 t)) := by
  have hb : ∀ x, x ≠ g0 + 1 → (W.setCell ⟨g0 + 1, 0, none⟩ (.int .i64 t)).heap[x]? = W.heap[x]? := fun x hx => Below.heap_setCell _ _ _ _ hx
  have hs : (W.setCell ⟨g0 + 1, 0, none⟩ (.int .i64 t)).heap.size = W.heap.size := by simp [World.setCell]
  obtain ⟨F', hd, hc, hf⟩ := h.disk
  have hne : ∀ x, F' x → x ≠ g0 + 1 := fun x hx => by rcases hf x hx with e | e; have := hF x e; omega; omega
  have bt : But (fun x => x = g0 + 1) W (W.setCell ⟨g0 + 1, 0, none⟩ (.int .i64 t)) := (But.refl _ W).set 0 _ (fun _ => rfl)
  refine ⟨⟨F', hd.but bt hne, fun x hx => ?_, hf⟩, h.but.set 0 _ (fun e => by omega), by rw [hs]; exact h.size, (hb g0 (by omega)).trans h.box, h.res.set _, (hb _ (by omega)).trans h.to_, (hb _ (by omega)).trans h.bs.1, (hb _ (by omega)).trans h.bs.2⟩
  obtain ⟨c, t', f, e⟩ := hc x hx
  exact ⟨c, t', f, (hb x (hne x hx)).trans e⟩
theorem Oth.acted (hw : w.heap.size = g0) (h : Oth w gd g0 at_ q c a F u to_ res st W) : Acted w gd F st W := by
  obtain ⟨F', hd, _, hf⟩ := h.disk
  exact ⟨F', hd, h.but, fun x hx => (hf x hx).imp id (fun e => by omega)⟩
/-- The disk is called. -/
theorem Oth.act {f : FuncId} {args : Array Value} {Q : Ending → Prop} {st' : St} (hw : w.heap.size = g0) (hF : ∀ x, F x → x < w.heap.size) (h : Oth w gd g0 at_ q c a F u to_ res st W)
    (hc : ∀ F', Disk W gd F' st → (∀ x, F' x → F x ∨ g0 + 5 ≤ x) → Calls Tryz.prog f args W fun e W' => Q e ∧ Acted W gd F' st' W') :
    Calls Tryz.prog f args W fun e W' => Q e ∧ Oth w gd g0 at_ q c a F u to_ res st' W' ∧ KeepsOthers W W' := by
  obtain ⟨F', hd, hci, hf⟩ := h.disk
  refine (hc F' hd hf).mono ?_
  rintro e W' ⟨hq, F2, hd2, hb, hf2⟩
  obtain ⟨F3, hd3, hc3, hf3⟩ := hd2.tight
  have hne : ∀ x, g0 ≤ x → x < g0 + 5 → W'.heap[x]? = W.heap[x]? := fun x h1 h2 => hb.block x (by have := h.size; omega) (fun e => by rcases hf x e with k | k; have := hF x k; omega; omega)
  refine ⟨hq, ⟨⟨F3, hd3, hc3, fun x hx => ?_⟩, h.but.next hb ?_, Nat.le_trans h.size hb.size, (hne g0 (by omega) (by omega)).trans h.box, (hne _ (by omega) (by omega)).trans h.res, (hne _ (by omega) (by omega)).trans h.to_, (hne _ (by omega) (by omega)).trans h.bs.1, (hne _ (by omega) (by omega)).trans h.bs.2⟩, keeps_of_but hci hb⟩
  · rcases hf2 x (hf3 x hx) with k | k
    · exact hf x k
    · right; have := h.size; omega
  · intro x hx hfx
    rcases hf x hfx with k | k
    · exact k
    · omega
end

set_option maxRecDepth 100000 in
set_option maxHeartbeats 2000000 in
theorem others_in {w : World} {gd at_ : Nat} {F : Nat → Prop} {s : St} {a : Addr} {k c : Nat} {x0 : List Nat} {T : List (List Nat)} (h : Disk w gd F s) (hin : In w (some a) (64 * k) (x0 :: T).flatten) (hL : T.length + 1 = k) (hT : 1 ≤ T.length) (hs : ∀ x ∈ x0 :: T, Sec x) (hA : ¬ F a.block) (hk : k ≤ 5) (hnc : 64 * k ≤ c)
    (hat : at_ + k ≤ s.sure.length) (hw : s.waits.length ≤ 900000) (hle : s.sure.length ≤ 4096) :
    CallsIn Fence.wide 3 Tryz.prog 180 #[addedV gd at_ (.slice (some a) (64 * k) c)] w fun e w' => e = .returned (.int .i64 (s.puts (at_ + 1) T).1) ∧ Acted w gd F (s.puts (at_ + 1) T).2 w' := by
  have hF := h.2.2
  obtain ⟨q, hq⟩ : ∃ q, T.length = q := ⟨_, rfl⟩
  obtain ⟨c1, hc1⟩ : ∃ c1, c - 64 = c1 := ⟨_, rfl⟩
  have hc2 : 64 * q ≤ c1 := by omega
  have hk1 : (64 : Int) ≤ ((64 * k : Nat) : Int) := by omega
  have hcc : ¬ c = 64 := by omega
  have hin1 : In w (some (a.add 64)) (64 * q) T.flatten := by
    have h2 := hin.rd.drop 64
    have e : (x0 :: T).flatten.drop 64 = T.flatten := by
      rw [List.flatten_cons, ← (hs x0 (by simp)).1, List.drop_left]
    rw [e] at h2
    refine ⟨?_, h2⟩
    rw [flat_len (fun x hx => (hs x (by simp [hx])).1), hq]
  obtain ⟨to0, hto0⟩ : ∃ t, at_ = t := ⟨_, rfl⟩
  have hat1 : at_ + 1 + q ≤ s.sure.length := by omega
  unfold addedV
  have hab0 : a.block < w.heap.size := by
    obtain ⟨ad, x, e, _, hc⟩ := hin.at_ (k := 0) (by omega)
    cases e
    have := World.block_lt_of_cell? w _ hc
    rwa [block_add] at this
  have HH := Lib.hid (And.intro h (And.intro hin1 (And.intro hs (And.intro hA hab0))))
  have HI := Lib.hid (And.intro hc2 (And.intro hat1 (And.intro hw (And.intro hle (And.intro hq hF)))))
  obtain ⟨n, hn⟩ : ∃ n, 64 * k = n := ⟨_, rfl⟩
  obtain ⟨n1, hn1⟩ : ∃ n1, 64 * q = n1 := ⟨_, rfl⟩
  have hnn : n - 64 = n1 := by omega
  rw [hn] at hk1 ⊢
  have hk2 : n ≤ c := by omega
  have hk3 : n ≤ 320 := by omega
  have hk4 : 64 ≤ n := by omega
  have hq5 : q ≤ 5 := by omega
  have HN := Lib.hid hn1
  have HA := Lib.hid (And.intro (show (⟨a.block, a.off + 64, none⟩ : Addr) = a.add 64 from (add_pos a (by omega)).symm) (And.intro hnn hc1))
  clear h hin hL hs hA hnc hat hw hle hq hF hn hT hin1 hat1 hto0 hn1 hc2 hnn hc1 hab0
  refine callsIn_of_wp_marks Tryz.func180 rfl trivial ?_ rfl
  simp only [Tryz.ntmps180, List.size_toArray, List.length_cons, List.length_nil, Nat.reduceAdd, Nat.reduceSub, Array.replicate_succ, Array.replicate_zero, List.push_toArray, List.append_toArray, List.nil_append, List.cons_append]
  gi_wp2_with (first
    | (refine ⟨trivial, ?_⟩; gi_at_call 246; refine (chunk64_in Fence.wide _ trivial rfl _ _ _ _).mono ?_; rintro e w3 ⟨rfl, rfl⟩))
  rw [HA.out.2.1, HA.out.2.2, HA.out.1]
  obtain ⟨a1, ha1⟩ : ∃ a1, a.add 64 = a1 := ⟨_, rfl⟩
  rw [ha1] at HH ⊢
  have hab : a1.block = a.block := by rw [← ha1, block_add]
  obtain ⟨g0, hg0⟩ : ∃ g0, w.heap.size = g0 := ⟨_, rfl⟩
  obtain ⟨W0, hW0⟩ : ∃ W0, W0 = ((((w.alloc (.cells #[.pointer (some ⟨gd, 0, none⟩), .int .i64 (at_ : Int), .slice (some a) n c] 147)).alloc (.cells #[.int .i64 0] 27)).alloc (.cells #[.int .i64 (at_ : Int)] 3)).alloc (.cells #[.slice (some a1) n1 c1] 50)).alloc (.cells #[.int .i64 64] 3) := ⟨_, rfl⟩
  have z0 : W0.heap.size = g0 + 5 := by rw [hW0, ← hg0]; simp
  have b0 : Below w.heap.size w W0 := by
    rw [hW0]
    exact (((((Below.refl _ w).alloc (Nat.le_refl _) _).alloc (by simp) _).alloc (by simp <;> omega) _).alloc (by simp <;> omega) _).alloc (by simp <;> omega) _
  have k0 : Oth w gd g0 at_ q c1 a1 F (.slice (some a) n c) (at_ + ([] : List Nat).length) 0 (s.puts (at_ + 1) (T.take ([] : List Nat).length)).2 W0 := by
    obtain ⟨F0, hd0, hc0, hf0⟩ := HH.out.1.tight
    refine ⟨⟨F0, hd0.below b0, fun x hx => ?_, fun x hx => .inl (hf0 x hx)⟩, But.of_below b0, by omega, ?_, ?_, ?_, ?_, ?_⟩
    · obtain ⟨c, t, f, e⟩ := hc0 x hx
      exact ⟨c, t, f, (b0.block x (hd0.2.2 x hx)).trans e⟩
    · rw [hW0, ← hg0]; exact (alloc5 w _ _ _ _ _).1
    · rw [hW0, ← hg0]; exact (alloc5 w _ _ _ _ _).2.1
    · rw [hW0, ← hg0]; exact (alloc5 w _ _ _ _ _).2.2.1
    · unfold Boxed; rw [hW0, ← hg0, HN.out]; exact (alloc5 w _ _ _ _ _).2.2.2.1
    · unfold Boxed; rw [hW0, ← hg0]; exact (alloc5 w _ _ _ _ _).2.2.2.2
  rw [← hW0, hg0]
  clear hW0 b0 hk1 hk2 hk4 hcc ha1
  refine wpIn_range_R rfl (by decide) (gf := 279) (bd := #[]) (lb := #[.pointer (some ⟨g0 + 1 + 1 + 1, 0, none⟩), .pointer (some ⟨g0 + 1 + 1 + 1 + 1, 0, none⟩)]) rfl trivial (enters_of Tryz.func279 (by kernel_rfl) rfl)
    (fun W1 hb1 => chunk64_seq Fence.wide (3 - 1) trivial rfl (by decide) (g0 + 3) (g0 + 4) q c1 a1 HI.out.1 (by omega) W1 ⟨(hb1.block _ (by omega)).trans k0.bs.1, (hb1.block _ (by omega)).trans k0.bs.2⟩) (fun _ => rfl)
    (fun _ _ _ _ _ _ h _ _ => h) (fun _ _ _ _ h hg hr => ⟨Boxed.step h.1 hg (fun r e => (hr r e).2), Boxed.step h.2 hg (fun r e => (hr r e).2)⟩) (fun _ _ _ _ h _ _ => h) (fun _ _ _ _ h _ _ => h)
    (fun pre W => Oth w gd g0 at_ q c1 a1 F (.slice (some a) n c) (at_ + pre.length) 0 (s.puts (at_ + 1) (T.take pre.length)).2 W ∧ (s.puts (at_ + 1) (T.take pre.length)).1 = 0)
    (fun pre W => Oth w gd g0 at_ q c1 a1 F (.slice (some a) n c) (at_ + pre.length) (s.puts (at_ + 1) T).1 (s.puts (at_ + 1) T).2 W)
    (fun _ _ _ _ h hg hr => ⟨h.1.step hg0 hg (fun r e => ⟨by have := (hr r e).1; omega, (hr r e).2⟩), h.2⟩) (fun _ _ _ _ h hg hr => h.step hg0 hg (fun r e => ⟨by have := (hr r e).1; omega, (hr r e).2⟩)) ⟨k0, rfl⟩
    (fun x => { tmps := #[.agg #[.pointer (some ⟨gd, 0, none⟩), .int .i64 (at_ : Int), .slice (some a) n c], .pointer (some ⟨g0, 0, none⟩), .pointer (some ⟨g0 + 1, 0, none⟩), .pointer (some ⟨g0 + 1 + 1, 0, none⟩), pk a1 x, undef, .pointer (some ⟨g0, 1, none⟩), .int .i64 (at_ : Int), .pointer (some ⟨g0, 2, none⟩), .slice (some a) n c, .slice (some a1) n1 c1,
      .func (.func 279) #[] #[.pointer (some ⟨g0 + 1 + 1 + 1, 0, none⟩), .pointer (some ⟨g0 + 1 + 1 + 1 + 1, 0, none⟩)], pk a1 x, undef, undef, undef, undef, undef, undef, undef, undef, undef, undef], defers := [] }) ?assign ?body ?done ?stop
  case assign =>
    intro l x W K hK
    gi_wp2
    exact hK
  case body =>
    rintro l pre x W ⟨ho, h0c⟩ ⟨rfl, hx⟩
    rw [List.length_range] at ho h0c
    obtain ⟨xs, hxs⟩ : ∃ xs, T[x]? = some xs := ⟨_, List.getElem?_eq_getElem (by rw [HI.out.2.2.2.2.1]; exact hx)⟩
    have hsec := HH.out.2.2.1 xs (List.mem_cons_of_mem _ (List.mem_of_getElem? hxs))
    have hblk : a1.block < g0 := by rw [hab, ← hg0]; exact HH.out.2.2.2.2
    have hnF : ¬ F a1.block := by rw [hab]; exact HH.out.2.2.2.1
    have hF := HI.out.2.2.2.2.2
    have hpc : In W (some (a1.add (64 * x))) 64 xs := by
      have h1 := in_but HH.out.2.1 ho.but (fun ad e => by cases e; exact hnF)
      have h2 := h1.drop_take (k := 64 * x) (m := 64) (by omega)
      have h3 : (T.flatten.drop (64 * x)).take 64 = xs := flat_piece (fun y hy => (HH.out.2.2.1 y (List.mem_cons_of_mem _ hy)).1) hxs
      rwa [h3] at h2
    have hstep := St.puts_step h0c hxs
    have hsure : (s.puts (at_ + 1) (T.take x)).2.sure = s.sure := St.puts_sure ..
    have hwt : (s.puts (at_ + 1) (T.take x)).2.waits.length ≤ 1000000 := by
      have h1 := St.puts_waits s (at_ + 1) (T.take x)
      have h2 := HI.out.2.2.1
      rw [List.length_take] at h1
      omega
    obtain ⟨st, hst⟩ : ∃ st, (s.puts (at_ + 1) (T.take x)).2 = st := ⟨_, rfl⟩
    rw [hst] at ho hstep hsure hwt
    have ho1 := ho.set hg0 hF (at_ + x + 1)
    have hpc1 : In (W.setCell ⟨g0 + 2, 0, none⟩ (.int .i64 ((at_ + x + 1 : Nat) : Int))) (some (a1.add (64 * x))) 64 xs :=
      in_but hpc ((But.refl (fun y => y = g0 + 2) W).set 0 _ (fun _ => rfl)) (fun ad e => by cases e; rw [block_add]; omega)
    have C := ho1.act hg0 hF (Q := fun e => e = .returned (.int .i64 st.sc)) (fun F' hd hf => write_gen (k := at_ + x + 1) (by rw [hsure]; have := HI.out.2.1; omega) (some (a1.add (64 * x))) 64 64 xs hpc1
      (fun _ ad e hF' => by cases e; rw [block_add] at hF'; rcases hf _ hF' with k | k; exact hnF k; omega) hsec.2 (Nat.le_refl _) hwt hd)
    have ct : W.cell? ⟨g0 + 1 + 1, 0, none⟩ = some (.int .i64 ((at_ + x : Nat) : Int)) := Boxed.cell ho.to_
    have ft : W.frozen? ⟨g0 + 1 + 1, 0, none⟩ = false := Boxed.frozen ho.to_
    have cb : (W.setCell ⟨g0 + 1 + 1, 0, none⟩ (.int .i64 ((at_ + x + 1 : Nat) : Int))).cell? ⟨g0, 0, none⟩ = some (.pointer (some ⟨gd, 0, none⟩)) := by rw [cell_of_row _ g0 0 _ _ (0, 0) ho1.box]; rfl
    have ct2 : (W.setCell ⟨g0 + 1 + 1, 0, none⟩ (.int .i64 ((at_ + x + 1 : Nat) : Int))).cell? ⟨g0 + 1 + 1, 0, none⟩ = some (.int .i64 ((at_ + x + 1 : Nat) : Int)) := Boxed.cell ho1.to_
    have hle1 : at_ + x + 1 ≤ 5000 := by have := HI.out.2.1; have := HI.out.2.2.2.1; omega
    obtain ⟨t0, ht0⟩ : ∃ t0, at_ + x = t0 := ⟨_, rfl⟩
    obtain ⟨t1, ht1⟩ : ∃ t1, at_ + x + 1 = t1 := ⟨_, rfl⟩
    have hto : ((t0 : Nat) : Int) + 1 = (t1 : Int) := by omega
    rw [ht0] at ct
    rw [ht1] at cb ct2 C hle1
    have HO := Lib.hid (And.intro hstep (And.intro hxs (And.intro ht1 (And.intro ho1.size ht0))))
    have HK1 := Lib.hid (KeepsOthers.setCell W ⟨g0 + 2, 0, none⟩ (.int .i64 (t1 : Int)))
    have HX := Lib.hid (And.intro hF (And.intro hx hg0))
    have hpx : pk a1 x = .slice (some (a1.add (64 * x))) 64 64 := rfl
    rw [hpx]
    clear ho ho1 hxs hst hsure hwt hpc hpc1 hsec hnF hF h0c ht0 ht1 hblk hab
    rcases st.sc_code with hsc | hsc
    · rw [hsc] at hstep C
      have HC := Lib.hid C
      have HS := Lib.hid hstep
      clear C hstep hsc
      gi_wp2_with (first
        | (refine ⟨trivial, ?_⟩; gi_at_call 20; refine (CallsIn.inRound l (callsIn_wide.2 HC.out)).mono ?_; rintro e w3 ⟨rfl, ho3, hko⟩))
      refine ⟨(HK1.out.trans hko).from _, fun _ _ _ _ h => h.elim, ho3.bs, ?_⟩
      have e1 : (List.range x ++ [x]).length = x + 1 := by simp
      show Oth w gd g0 at_ q c1 a1 F (.slice (some a) n c) (at_ + (List.range x ++ [x]).length) 0 (s.puts (at_ + 1) (T.take (List.range x ++ [x]).length)).2 w3 ∧ (s.puts (at_ + 1) (T.take (List.range x ++ [x]).length)).1 = 0
      rw [e1, HS.out]
      have h3 := ho3
      rw [← HO.out.2.2.1] at h3
      refine ⟨?_, rfl⟩
      rw [show at_ + 1 + x = at_ + x + 1 by omega, show at_ + (x + 1) = at_ + x + 1 by omega]
      exact h3
    · rw [hsc] at hstep C
      have HC := Lib.hid C
      have HS := Lib.hid hstep
      clear C hstep hsc
      gi_wp2_with (first
        | (refine ⟨trivial, ?_⟩; gi_at_call 20; refine (CallsIn.inRound l (callsIn_wide.2 HC.out)).mono ?_; rintro e w3 ⟨rfl, ho3, hko⟩; have cr : w3.cell? ⟨g0 + 1, 0, none⟩ = some (.int .i64 0) := Boxed.cell ho3.res; have fr : w3.frozen? ⟨g0 + 1, 0, none⟩ = false := Boxed.frozen ho3.res))
      refine ⟨((HK1.out.trans hko).trans (KeepsOthers.setCell _ _ _)).from _, ?_⟩
      have e1 : (List.range x ++ [x]).length = x + 1 := by simp
      show Oth w gd g0 at_ q c1 a1 F (.slice (some a) n c) (at_ + (List.range x ++ [x]).length) (s.puts (at_ + 1) T).1 (s.puts (at_ + 1) T).2 _
      have hT : s.puts (at_ + 1) T = (9, st.wn (at_ + 1 + x) xs) := by
        rw [St.puts_fall (j := x + 1) (by rw [HS.out]; exact (by decide : (9 : Int) ≠ 0)), HS.out]
      rw [e1, hT]
      have h3 := ho3.setRes HX.out.2.2 HX.out.1 9
      rw [← HO.out.2.2.1] at h3
      rw [show at_ + 1 + x = at_ + x + 1 by omega, show at_ + (x + 1) = at_ + x + 1 by omega]
      exact h3
  case done =>
    rintro D ys W hD rfl ⟨ho, h0c⟩ hK
    rw [List.length_range, ← HI.out.2.2.2.2.1, List.take_length] at ho h0c
    have cr : W.cell? ⟨g0 + 1, 0, none⟩ = some (.int .i64 0) := Boxed.cell ho.res
    have fr : W.frozen? ⟨g0 + 1, 0, none⟩ = false := Boxed.frozen ho.res
    have ho2 := ho.setRes hg0 HI.out.2.2.2.2.2 0
    have hK2 := (KeepsOthers.setCell W ⟨g0 + 1, 0, none⟩ (.int .i64 0)).same D _ hK rfl
    have ho4 := ho2.step hg0 (grownBy_putObj' _ D (.deferred none)) (fun r e => by cases e; exact ⟨by omega, _, hK2, rfl⟩)
    have c5 : ((W.setCell ⟨g0 + 1, 0, none⟩ (.int .i64 0)).putObj D (.deferred none)).cell? ⟨g0 + 1, 0, none⟩ = some (.int .i64 0) := Boxed.cell ho4.res
    have HF := Lib.hid (And.intro (ho4.acted hg0) h0c)
    clear ho ho2 ho4 h0c
    gi_wp2
    refine ⟨by simp, .inl ⟨_, _, rfl, run_takeDeferred hK2, ?_⟩⟩
    refine ⟨.int .i64 0, ?_, by rw [HF.out.2], HF.out.1⟩
    simp [results, go_sem, c5]
  case stop =>
    rintro D pre W hD _ ho hK
    have ho4 := ho.step hg0 (grownBy_putObj' _ D (.deferred none)) (fun r e => by cases e; exact ⟨by omega, _, hK, rfl⟩)
    have c5 : (W.putObj D (.deferred none)).cell? ⟨g0 + 1, 0, none⟩ = some (.int .i64 (s.puts (at_ + 1) T).1) := Boxed.cell ho4.res
    have HF := Lib.hid (ho4.acted hg0)
    clear ho ho4
    gi_wp2
    refine ⟨by simp, .inl ⟨_, _, rfl, run_takeDeferred hK, ?_⟩⟩
    refine ⟨.int .i64 (s.puts (at_ + 1) T).1, ?_, rfl, HF.out⟩
    simp [results, go_sem, c5]

end Go.Proofs.YthbgcijkpincfaaGreatDoor

/-
  Calls of the disk, one behind the other: call, and Sync.
-/
namespace Go.Proofs.YthbgcijkpincfaaGreatDoor
open Go.RowKit

/-- A disk and a store on it, apart. -/
structure Held_ (w : World) (gd sb from_ many : Nat) (m : Sm) (F G : Nat → Prop) : Prop where
  d : Disk w gd F m.st
  s : Sto w sb gd from_ many G m.l m.down
  ap : ∀ x, F x → ¬ G x
  fits : from_ + many ≤ m.st.sure.length
/-- What a call on both leaves. -/
def Went (w : World) (gd sb from_ many : Nat) (F G : Nat → Prop) (m' : Sm) (w' : World) : Prop :=
  ∃ F' G', Held_ w' gd sb from_ many m' F' G' ∧ But (fun x => F x ∨ G x) w w' ∧ (∀ x, F' x → F x ∨ w.heap.size ≤ x) ∧ ∀ x, G' x → G x ∨ w.heap.size ≤ x

section
variable {w w' : World} {gd sb from_ many : Nat} {m m' : Sm} {F G : Nat → Prop}
theorem Held_.below (h : Held_ w gd sb from_ many m F G) (hb : Below w.heap.size w w') : Held_ w' gd sb from_ many m F G := ⟨h.d.below hb, h.s.below hb, h.ap, h.fits⟩
theorem went_refl (h : Held_ w gd sb from_ many m F G) (hb : Below w.heap.size w w') : Went w gd sb from_ many F G m w' := ⟨F, G, h.below hb, But.of_below hb, fun _ hx => .inl hx, fun _ hx => .inl hx⟩
theorem Went.after {w1 : World} (h1 : Below w.heap.size w w1) (h : Went w1 gd sb from_ many F G m' w') : Went w gd sb from_ many F G m' w' := by
  obtain ⟨F', G', hh, hb, hf, hg⟩ := h
  exact ⟨F', G', hh, (But.of_below h1).trans hb, fun x hx => (hf x hx).imp id (fun e => Nat.le_trans h1.size e), fun x hx => (hg x hx).imp id (fun e => Nat.le_trans h1.size e)⟩
theorem Went.more {w2 : World} (h : Went w gd sb from_ many F G m' w') (h2 : Below w'.heap.size w' w2) : Went w gd sb from_ many F G m' w2 := by
  obtain ⟨F', G', hh, hb, hf, hg⟩ := h
  exact ⟨F', G', hh.below h2, hb.trans (But.of_below h2), hf, hg⟩
end
theorem setDown {w : World} {g gd from_ many : Nat} {G : Nat → Prop} {l : List (List Nat)} {down : Bool} (h : Sto w g gd from_ many G l down) (z : Bool) : Sto (w.setCell ⟨g, 5, none⟩ (.bool z)) g gd from_ many G l z := by
  obtain ⟨⟨v, vals, h⟩, hl⟩ := h
  have hb : ∀ x, x ≠ g → (w.setCell ⟨g, 5, none⟩ (.bool z)).heap[x]? = w.heap[x]? := fun x hx => Below.heap_setCell _ _ _ _ hx
  have hs : (w.setCell ⟨g, 5, none⟩ (.bool z)).heap.size = w.heap.size := by simp [World.setCell]
  refine ⟨⟨v, vals, ?_, own_block h.row (fun x hx => hb x (fun e => ?_)), h.len, fun i u b hu hb2 => ⟨own_block (h.recs i u b hu hb2).1 (fun x hx => hb x (fun e => ?_)), (h.recs i u b hu hb2).2⟩, h.gg, h.gv, h.ok, h.fits⟩, fun x hx => by rw [hs]; exact hl x hx⟩
  · exact heap_setCell_same w g 5 _ _ (.bool z) h.head
  · obtain ⟨cur, hc⟩ := own_type h.row hx
    exact block_ne h.head hc tne_hv e.symm
  · obtain ⟨cur, hc⟩ := own_type (h.recs i u b hu hb2).1 hx
    exact block_ne h.head hc tne_hr e.symm

/-- Between two calls of the disk. -/
def Amid (w : World) (gd : Nat) (F : Nat → Prop) (s : St) (W : World) : Prop := But F w W ∧ ∃ F', Disk W gd F' s ∧ ∀ x, F' x → F x ∨ w.heap.size ≤ x
theorem Amid.act {w W W' : World} {gd : Nat} {F F' : Nat → Prop} {s' : St} (hb : But F w W) (hf : ∀ x, F' x → F x ∨ w.heap.size ≤ x) (h : Acted W gd F' s' W') : Amid w gd F s' W' := by
  obtain ⟨F2, hd, hb2, hf2⟩ := h
  refine ⟨hb.next hb2 (fun x hx e => (hf x e).elim id (fun k => by omega)), F2, hd, fun x hx => ?_⟩
  rcases hf2 x hx with k | k
  · exact hf x k
  · exact .inr (Nat.le_trans hb.size k)

theorem call_steps {w : World} {gd sb from_ many C n cap : Nat} {F G : Nat → Prop} {st : St} {l : List (List Nat)} (h : Held_ w gd sb from_ many ⟨st, l, false⟩ F G) (steps : List (St → Int × St)) (cs : List (FuncId × Array Value)) (hn : cs.length = n) (hn2 : steps.length = n) (hn4 : n ≤ 4)
    (hr : ∀ (j : Nat) (f : FuncId) (bd : Array Value), cs[j]? = some (f, bd) → ∀ (zs : Array Value) (W : World), (callFunc f zs).run Tryz.prog W = .ok (.enter f zs) W)
    (hc : ∀ (j : Nat) (f : FuncId) (bd : Array Value), cs[j]? = some (f, bd) → w.cell? ⟨C, j, none⟩ = some (.func (.func f) bd #[])) (hC : ¬ F C)
    (hq : ∀ f ∈ steps, ∀ s : St, (f s).2.sure.length = s.sure.length ∧ (f s).2.waits.length ≤ s.waits.length + 5)
    (hs : ∀ (j : Nat) (f : FuncId) (bd : Array Value) (g : St → Int × St), cs[j]? = some (f, bd) → steps[j]? = some g → ∀ (W : World) (F' : Nat → Prop) (s : St), But F w W → Disk W gd F' s → (∀ x, F' x → F x ∨ w.heap.size ≤ x) → s.sure.length = st.sure.length → s.waits.length ≤ st.waits.length + 5 * j →
      Calls Tryz.prog f bd W fun e W' => e = .returned (.int .i64 (g s).1) ∧ Acted W gd F' (g s).2 W') :
    Calls Tryz.prog 79 #[.pointer (some ⟨sb, 0, none⟩), .slice (some ⟨C, 0, none⟩) n cap] w fun e W' => e = .returned (.int .i64 (runs steps st).1) ∧ Went w gd sb from_ many F G ⟨(runs steps st).2, l, decide ((runs steps st).1 ≠ 0)⟩ W' := by
  have hsG : ∀ W : World, But F w W → Sto W sb gd from_ many G l false := fun W hb => h.s.but hb (fun x hg hf => h.ap x hf hg)
  have hlen : ∀ j, (runs (steps.take j) st).2.sure.length = st.sure.length ∧ (runs (steps.take j) st).2.waits.length ≤ st.waits.length + 5 * j := by
    have go : ∀ (fs : List (St → Int × St)) (s : St), (∀ f ∈ fs, f ∈ steps) → (runs fs s).2.sure.length = s.sure.length ∧ (runs fs s).2.waits.length ≤ s.waits.length + 5 * fs.length := by
      intro fs
      induction fs with
      | nil => intro s _; exact ⟨rfl, Nat.le_refl _⟩
      | cons f fs ih =>
        intro s hfs
        have h1 := hq f (hfs f (by simp)) s
        rw [runs]
        split
        · have h2 := ih (f s).2 (fun g hg => hfs g (by simp [hg]))
          rw [List.length_cons]
          exact ⟨h2.1.trans h1.1, by omega⟩
        · rw [List.length_cons]
          exact ⟨h1.1, by omega⟩
    intro j
    have h1 := go (steps.take j) st (fun f hf => List.mem_of_mem_take hf)
    rw [List.length_take] at h1
    exact ⟨h1.1, by omega⟩
  refine (call_go (w := w) (g := sb) (C := C) (n := n) (cap := cap) cs hn hn4 (fun j W => Amid w gd F (runs (steps.take j) st).2 W ∧ (runs (steps.take j) st).1 = 0)
    (fun c W => Amid w gd F (runs steps st).2 W ∧ (runs steps st).1 = c) hr (fun j W f bd hP hj => ?_) (fun j W f bd hj hP => ?_) ?_ ⟨⟨But.refl _ _, F, h.d, fun _ hx => .inl hx⟩, rfl⟩ (fun c W hX => ?_)).mono ?_
  · have h1 := hc j f bd hj
    exact (World.cell?_of_block (hP.1.1.block _ (World.block_lt_of_cell? w _ h1) hC)).trans h1
  · obtain ⟨⟨hb, F', hd, hf⟩, h0⟩ := hP
    have hjn := (List.getElem?_eq_some_iff.1 hj).1
    obtain ⟨g, hg⟩ : ∃ g, steps[j]? = some g := ⟨_, List.getElem?_eq_getElem (by omega)⟩
    have hst := runs_step h0 hg
    refine (hs j f bd g hj hg W F' _ hb hd hf (hlen j).1 (hlen j).2).mono ?_
    rintro e W' ⟨rfl, ha⟩
    by_cases hz : (g (runs (steps.take j) st).2).1 = 0
    · left
      rw [hst]
      exact ⟨by rw [hz], Amid.act hb hf ha, hz⟩
    · right
      have hfl : runs steps st = g (runs (steps.take j) st).2 := by rw [runs_fall (j := j + 1) (by rw [hst]; exact hz), hst]
      rw [hfl]
      exact ⟨_, hz, rfl, Amid.act hb hf ha, rfl⟩
  · obtain ⟨⟨v, vals, hh⟩, _⟩ := h.s
    exact hh.c5
  · obtain ⟨⟨v, vals, hh⟩, _⟩ := hsG W hX.1.1
    exact ⟨hh.c5, hh.fz 5⟩
  · have fits : ∀ W : World, from_ + many ≤ (runs steps st).2.sure.length := fun _ => by
      have h1 := (hlen n).1
      rw [List.take_of_length_le (by omega)] at h1
      rw [h1]; exact h.fits
    rintro e W' (⟨rfl, hP⟩ | ⟨c, W1, hc0, rfl, ⟨hX, hcc⟩, rfl⟩)
    · rw [List.take_of_length_le (by omega)] at hP
      obtain ⟨⟨hb, F', hd, hf⟩, h0⟩ := hP
      refine ⟨by rw [h0], F', G, ⟨hd, ?_, fun x hx hg => ?_, fits W'⟩, hb.mono (fun x _ e => .inl e), hf, fun x hx => .inl hx⟩
      · have e1 : decide ((runs steps st).1 ≠ 0) = false := by simp [h0]
        show Sto W' sb gd from_ many G l (decide ((runs steps st).1 ≠ 0))
        rw [e1]
        exact hsG W' hb
      · rcases hf x hx with k | k
        · exact h.ap x k hg
        · have := h.s.2 x hg; omega
    · obtain ⟨hb, F', hd, hf⟩ := hX
      have hap : ∀ x, F' x → ¬ G x := fun x hx hg => by
        rcases hf x hx with k | k
        · exact h.ap x k hg
        · have := h.s.2 x hg; omega
      have bt : But (fun x => x = sb) W1 (W1.setCell ⟨sb, 5, none⟩ (.bool true)) := (But.refl _ W1).set 5 _ (fun _ => rfl)
      refine ⟨by rw [hcc], F', G, ⟨hd.but bt (fun x hx e => hap x hx (e ▸ h.s.mem)), ?_, hap, fits W1⟩, (hb.mono (fun x _ e => .inl e) : But (fun x => F x ∨ G x) w W1).next bt (fun x _ e => .inr (e ▸ h.s.mem)), hf, fun x hx => .inl hx⟩
      have e1 : decide ((runs steps st).1 ≠ 0) = true := by rw [hcc]; simpa using hc0
      show Sto _ sb gd from_ many G l (decide ((runs steps st).1 ≠ 0))
      rw [e1]
      exact setDown (hsG W1 hb) true

theorem stepS_q (s : St) : (stepS s).2.sure.length = s.sure.length ∧ (stepS s).2.waits.length ≤ s.waits.length + 5 := by
  unfold stepS St.sn
  split
  · exact ⟨by show s.burnt.sure.length = _; rw [s.burnt_sure], by show s.burnt.waits.length ≤ _; rw [s.burnt_waits]; omega⟩
  · exact ⟨by show s.burnt.read.length = _; rw [s.burnt_read, s.read_length], by show ([] : List (Nat × List Nat)).length ≤ _; simp⟩
theorem stepW_q (k : Nat) (x : List Nat) (s : St) : (stepW k x s).2.sure.length = s.sure.length ∧ (stepW k x s).2.waits.length ≤ s.waits.length + 5 :=
  ⟨by show (s.wn k x).sure.length = _; rw [s.wn_sure], by have := s.wn_waits k x; show (s.wn k x).waits.length ≤ _; omega⟩
theorem stepO_q (k : Nat) (L : List (List Nat)) (hL : L.length ≤ 5) (s : St) : (stepO k L s).2.sure.length = s.sure.length ∧ (stepO k L s).2.waits.length ≤ s.waits.length + 5 :=
  ⟨by show (s.puts k L).2.sure.length = _; rw [s.puts_sure], by have := s.puts_waits k L; show (s.puts k L).2.waits.length ≤ _; omega⟩

set_option maxRecDepth 100000 in
theorem ssync_any {w : World} {gd sb from_ many : Nat} {F G : Nat → Prop} {m : Sm} (h : Held_ w gd sb from_ many m F G) :
    Calls Tryz.prog 12 #[.pointer (some ⟨sb, 0, none⟩)] w fun e w' => e = .returned (.int .i64 m.sync.1) ∧ Went w gd sb from_ many F G m.sync.2 w' := by
  obtain ⟨⟨v, vals, hh⟩, hG⟩ := h.s
  have C := there_sto hh
  have c0 := hh.c0
  have hb := below_alloc w (.cells #[.func (.func 80) #[.pointer (some ⟨gd, 0, none⟩)] #[]] 55)
  have hcell : (w.alloc (.cells #[.func (.func 80) #[.pointer (some ⟨gd, 0, none⟩)] #[]] 55)).cell? ⟨w.heap.size, 0, none⟩ = some (.func (.func 80) #[.pointer (some ⟨gd, 0, none⟩)] #[]) := by
    rw [cell_of_row _ _ 0 _ _ (0, 0) (World.alloc_heap_new w _)]; rfl
  by_cases hd : m.down = true
  · have hw1 := (hh.blocks (w' := w.alloc (.cells #[.func (.func 80) #[.pointer (some ⟨gd, 0, none⟩)] #[]] 55)) (fun x hx => alloc_at w _ x (hG x hx))).c5
    rw [hd] at hw1
    have HW := Lib.hid (went_refl h hb)
    have CD := fun u => call_down (u := u) hw1
    have e1 : m.sync = (9, m) := by unfold Sm.sync; rw [if_pos hd]
    rw [e1]
    clear h hh hG hd hw1 hb hcell e1
    go_enter Tryz.func12, Tryz.ntmps12
    go_wp2_with fail
    refine C.mono ?_
    rintro e w1 ⟨rfl, rfl⟩
    go_wp2_with fail
    refine (CD _).mono ?_
    rintro e w1 ⟨rfl, rfl⟩
    go_wp2
    go_ret
    exact ⟨rfl, HW.out⟩
  · have hd0 : m.down = false := by simpa using hd
    have h1 : Held_ w gd sb from_ many ⟨m.st, m.l, false⟩ F G := by
      have := h
      obtain ⟨st, l, down⟩ := m
      cases hd0
      exact h
    have hF := h.d.2.2
    have CS := call_steps (C := w.heap.size) (n := 1) (cap := 1) (h1.below hb) [stepS] [(80, #[.pointer (some ⟨gd, 0, none⟩)])] rfl rfl (by decide)
      (fun j f bd hj zs W => by
        have hj1 := (List.getElem?_eq_some_iff.1 hj).1
        obtain rfl : j = 0 := by simp at hj1; exact hj1
        cases hj
        show (callFunc 80 zs).run Tryz.prog W = .ok (.enter 80 zs) W
        kernel_rfl)
      (fun j f bd hj => by
        have hj1 := (List.getElem?_eq_some_iff.1 hj).1
        obtain rfl : j = 0 := by simp at hj1; exact hj1
        cases hj
        exact hcell)
      (fun e => by have := hF _ e; omega)
      (fun f hf s => by rw [List.mem_singleton.1 hf]; exact stepS_q s)
      (fun j f bd g hj hg W F' s _ hd _ _ _ => by
        have hj1 := (List.getElem?_eq_some_iff.1 hj).1
        obtain rfl : j = 0 := by simp at hj1; exact hj1
        cases hj
        cases hg
        exact sync_gen hd)
    have e1 : m.sync = (m.st.sc, ⟨m.st.sn, m.l, decide (m.st.sc ≠ 0)⟩) := by unfold Sm.sync; rw [if_neg hd]
    have e2 : runs [stepS] m.st = (m.st.sc, m.st.sn) := by
      have h := runs_step (fs := [stepS]) (s := m.st) (j := 0) (f := stepS) rfl rfl
      exact h
    rw [e2] at CS
    rw [e1]
    have HC := Lib.hid (And.intro CS hb)
    clear CS h h1 hh hG hd hd0 hb hcell hF e1 e2
    go_enter Tryz.func12, Tryz.ntmps12
    go_wp2_with fail
    refine C.mono ?_
    rintro e w1 ⟨rfl, rfl⟩
    go_wp2_with fail
    refine HC.out.1.mono ?_
    rintro e w1 ⟨rfl, hw⟩
    go_wp2
    go_ret
    exact ⟨rfl, hw.after HC.out.2⟩

end Go.Proofs.YthbgcijkpincfaaGreatDoor

/-
  The calls that make a frame stand there.
-/
namespace Go.Proofs.YthbgcijkpincfaaGreatDoor
open Go.RowKit

def fnS (gd : Nat) : Value := .func (.func 80) #[.pointer (some ⟨gd, 0, none⟩)] #[]
def fnF (v : Value) : Value := .func (.func 179) #[v] #[]
def fnO (v : Value) : Value := .func (.func 180) #[v] #[]

/-- The calls lie in block C. -/
def CallsAt (w : World) (C gd at_ k nn : Nat) (u : Value) : Prop :=
  (k = 1 ∧ nn = 2 ∧ w.heap[C]? = some (.cells #[fnS gd, fnF (addedV gd at_ u)] 55 (0, 0))) ∨
  (k ≠ 1 ∧ nn = 4 ∧ w.heap[C]? = some (.cells #[fnS gd, fnO (addedV gd at_ u), fnS gd, fnF (addedV gd at_ u)] 55 (0, 0)))

set_option maxRecDepth 100000 in
set_option maxHeartbeats 1000000 in
theorem calls_added {w : World} {gd at_ : Nat} {A : Option Addr} {k c : Nat} (hk : k ≤ 5) :
    Calls Tryz.prog 90 #[addedV gd at_ (.slice A (64 * k) c)] w fun e w' => ∃ C nn, e = .returned (.slice (some ⟨C, 0, none⟩) nn nn) ∧ Below w.heap.size w w' ∧ w.heap.size ≤ C ∧ CallsAt w' C gd at_ k nn (.slice A (64 * k) c) := by
  obtain ⟨u, hu⟩ : ∃ u, Value.slice A (64 * k) c = u := ⟨_, rfl⟩
  have hw1 := below_alloc w (.cells #[.pointer (some ⟨gd, 0, none⟩), .int .i64 (at_ : Int), u] 147)
  have hone : u.oneCell' = true := by rw [← hu]; rfl
  obtain ⟨w1, hw1e⟩ : ∃ w1, w.alloc (.cells #[.pointer (some ⟨gd, 0, none⟩), .int .i64 (at_ : Int), u] 147) = w1 := ⟨_, rfl⟩
  have C1 := sectors_added (w := w1) (gd := gd) (at_ := at_) (A := A) (k := k) (c := c) (by omega)
  rw [hu] at C1 ⊢
  obtain ⟨B, hB⟩ : ∃ B, w.heap.size = B := ⟨_, rfl⟩
  have row : w1.heap[B]? = some (.cells #[.pointer (some ⟨gd, 0, none⟩), .int .i64 (at_ : Int), u] 147 (0, 0)) := by rw [← hw1e, ← hB]; exact World.alloc_heap_new w _
  rw [hw1e] at hw1
  unfold addedV at C1 ⊢
  have HX := Lib.hid (And.intro hw1 (And.intro hw1e (And.intro hB row)))
  have HC := Lib.hid C1
  have c0 : w1.cell? ⟨B, 0, none⟩ = some (.pointer (some ⟨gd, 0, none⟩)) := by rw [cell_of_row _ B 0 _ _ (0, 0) row]; rfl
  have c1 : w1.cell? ⟨B, 1, none⟩ = some (.int .i64 (at_ : Int)) := by rw [cell_of_row _ B 1 _ _ (0, 0) row]; rfl
  have c2 : w1.cell? ⟨B, 2, none⟩ = some u := by rw [cell_of_row _ B 2 _ _ (0, 0) row]; rfl
  clear hw1 hw1e hB row C1 hu
  by_cases h1 : k = 1
  · subst h1
    go_enter Tryz.func90, Tryz.ntmps90
    go_wp2_with fail
    rw [HX.out.2.1, HX.out.2.2.1]
    go_wp2_with fail
    refine HC.out.mono ?_
    rintro e w2 ⟨rfl, hb2⟩
    have d0 : w2.cell? ⟨B, 0, none⟩ = some (.pointer (some ⟨gd, 0, none⟩)) := (hb2.cell (World.block_lt_of_cell? w1 _ c0)).trans c0
    have d1 : w2.cell? ⟨B, 1, none⟩ = some (.int .i64 (at_ : Int)) := (hb2.cell (World.block_lt_of_cell? w1 _ c1)).trans c1
    have d2 : w2.cell? ⟨B, 2, none⟩ = some u := (hb2.cell (World.block_lt_of_cell? w1 _ c2)).trans c2
    go_wp2
    go_ret
    refine ⟨_, _, rfl, ?_, ?_, .inl ⟨rfl, rfl, World.alloc_heap_new w2 _⟩⟩
    · exact (HX.out.1.trans (hb2.mono HX.out.1.size)).trans ((below_alloc w2 _).mono (Nat.le_trans HX.out.1.size hb2.size))
    · exact Nat.le_trans HX.out.1.size hb2.size
  · have hki : ((k : Int) == 1) = false := by simp; omega
    go_enter Tryz.func90, Tryz.ntmps90
    go_wp2_with fail
    rw [HX.out.2.1, HX.out.2.2.1]
    go_wp2_with fail
    refine HC.out.mono ?_
    rintro e w2 ⟨rfl, hb2⟩
    have d0 : w2.cell? ⟨B, 0, none⟩ = some (.pointer (some ⟨gd, 0, none⟩)) := (hb2.cell (World.block_lt_of_cell? w1 _ c0)).trans c0
    have d1 : w2.cell? ⟨B, 1, none⟩ = some (.int .i64 (at_ : Int)) := (hb2.cell (World.block_lt_of_cell? w1 _ c1)).trans c1
    have d2 : w2.cell? ⟨B, 2, none⟩ = some u := (hb2.cell (World.block_lt_of_cell? w1 _ c2)).trans c2
    go_wp2
    go_ret
    refine ⟨_, _, rfl, ?_, ?_, .inr ⟨h1, rfl, World.alloc_heap_new w2 _⟩⟩
    · exact (HX.out.1.trans (hb2.mono HX.out.1.size)).trans ((below_alloc w2 _).mono (Nat.le_trans HX.out.1.size hb2.size))
    · exact Nat.le_trans HX.out.1.size hb2.size

/-- What the calls answer and leave. -/
def Sm.calls (m : Sm) (at_ : Nat) (L : List (List Nat)) : Int × Sm :=
  if m.down then (9, m) else ((runs (addSteps at_ L) m.st).1, ⟨(runs (addSteps at_ L) m.st).2, m.l, decide ((runs (addSteps at_ L) m.st).1 ≠ 0)⟩)

theorem call_added {w : World} {gd sb from_ many at_ k c C nn : Nat} {F G : Nat → Prop} {m : Sm} {a : Addr} {L : List (List Nat)} (h : Held_ w gd sb from_ many m F G) (hc : CallsAt w C gd at_ k nn (.slice (some a) (64 * k) c)) (hC : ¬ F C)
    (hin : In w (some a) (64 * k) L.flatten) (hL : L.length = k) (hs : ∀ x ∈ L, Sec x) (hA : ¬ F a.block) (h0 : 0 < k) (hk : k ≤ 5) (hnc : 64 * k ≤ c) (hat : at_ + k ≤ m.st.sure.length) (hw : m.st.waits.length ≤ 800000) :
    Calls Tryz.prog 79 #[.pointer (some ⟨sb, 0, none⟩), .slice (some ⟨C, 0, none⟩) nn nn] w fun e W' => e = .returned (.int .i64 (m.calls at_ L).1) ∧ Went w gd sb from_ many F G (m.calls at_ L).2 W' := by
  by_cases hd : m.down = true
  · obtain ⟨⟨v, vals, hh⟩, hG⟩ := h.s
    have c5 := hh.c5
    rw [hd] at c5
    have e1 : m.calls at_ L = (9, m) := by unfold Sm.calls; rw [if_pos hd]
    rw [e1]
    refine (call_down c5).mono ?_
    rintro e w' ⟨he, rfl⟩
    exact ⟨he, went_refl h (Below.refl _ _)⟩
  · have hd0 : m.down = false := by simpa using hd
    have h1 : Held_ w gd sb from_ many ⟨m.st, m.l, false⟩ F G := by
      obtain ⟨st, l, down⟩ := m
      cases hd0
      exact h
    have e1 : m.calls at_ L = ((runs (addSteps at_ L) m.st).1, ⟨(runs (addSteps at_ L) m.st).2, m.l, decide ((runs (addSteps at_ L) m.st).1 ≠ 0)⟩) := by unfold Sm.calls; rw [if_neg hd]
    rw [e1]
    have hle := h.d.1.le
    have hFa : ∀ (F' : Nat → Prop), (∀ x, F' x → F x ∨ w.heap.size ≤ x) → ¬ F' a.block := fun F' hf e => by
      rcases hf _ e with k1 | k1
      · exact hA k1
      · obtain ⟨ad, x, e2, _, hcc⟩ := hin.at_ (k := 0) (by omega)
        cases e2
        have := World.block_lt_of_cell? w _ hcc
        rw [block_add] at this
        omega
    have hinW : ∀ W, But F w W → In W (some a) (64 * k) L.flatten := fun W hb => in_but hin hb (fun ad e => by cases e; exact hA)
    have cS : ∀ (W : World) (F' : Nat → Prop) (s : St), Disk W gd F' s → Calls Tryz.prog 80 #[.pointer (some ⟨gd, 0, none⟩)] W fun e W' => e = .returned (.int .i64 (stepS s).1) ∧ Acted W gd F' (stepS s).2 W' := fun W F' s hd => sync_gen hd
    have cF : ∀ (W : World) (F' : Nat → Prop) (s : St), But F w W → Disk W gd F' s → (∀ x, F' x → F x ∨ w.heap.size ≤ x) → s.sure.length = m.st.sure.length → s.waits.length ≤ m.st.waits.length + 20 →
        Calls Tryz.prog 179 #[addedV gd at_ (.slice (some a) (64 * k) c)] W fun e W' => e = .returned (.int .i64 (stepW at_ (L.headD []) s).1) ∧ Acted W gd F' (stepW at_ (L.headD []) s).2 W' :=
      fun W F' s hb hd hf hsu hwa => first_added hd (hinW W hb) hL hs (fun ad e => by cases e; exact hFa F' hf) h0 hk hnc (by omega) (by omega)
    rcases hc with ⟨rfl, rfl, row⟩ | ⟨hk1, rfl, row⟩
    · have e2 : addSteps at_ L = [stepS, stepW at_ (L.headD [])] := by unfold addSteps; rw [if_pos hL]
      rw [e2]
      refine call_steps (C := C) (n := 2) (cap := 2) h1 _ [(80, #[.pointer (some ⟨gd, 0, none⟩)]), (179, #[addedV gd at_ (.slice (some a) (64 * 1) c)])] rfl rfl (by decide) ?_ ?_ hC ?_ ?_
      · intro j f bd hj zs W
        rcases j with _ | _ | j
        · cases hj; show (callFunc 80 zs).run Tryz.prog W = .ok (.enter 80 zs) W; kernel_rfl
        · cases hj; show (callFunc 179 zs).run Tryz.prog W = .ok (.enter 179 zs) W; kernel_rfl
        · simp at hj
      · intro j f bd hj
        rcases j with _ | _ | j
        · cases hj; rw [cell_of_row _ C 0 _ _ (0, 0) row]; rfl
        · cases hj; rw [cell_of_row _ C 1 _ _ (0, 0) row]; rfl
        · simp at hj
      · intro f hf s
        simp only [List.mem_cons, List.not_mem_nil, or_false] at hf
        rcases hf with rfl | rfl
        · exact stepS_q s
        · exact stepW_q _ _ s
      · intro j f bd g hj hg W F' s hb hd hf hsu hwa
        rcases j with _ | _ | j
        · cases hj; cases hg; exact cS W F' s hd
        · cases hj; cases hg; exact cF W F' s hb hd hf hsu (by omega)
        · simp at hj
    · have e2 : addSteps at_ L = [stepS, stepO (at_ + 1) L.tail, stepS, stepW at_ (L.headD [])] := by unfold addSteps; rw [if_neg (by omega)]
      rw [e2]
      obtain ⟨x0, T, rfl⟩ : ∃ x0 T, L = x0 :: T := by
        cases L with
        | nil => simp at hL; omega
        | cons x T => exact ⟨x, T, rfl⟩
      rw [List.length_cons] at hL
      have cO : ∀ (W : World) (F' : Nat → Prop) (s : St), But F w W → Disk W gd F' s → (∀ x, F' x → F x ∨ w.heap.size ≤ x) → s.sure.length = m.st.sure.length → s.waits.length ≤ m.st.waits.length + 20 →
          Calls Tryz.prog 180 #[addedV gd at_ (.slice (some a) (64 * k) c)] W fun e W' => e = .returned (.int .i64 (stepO (at_ + 1) T s).1) ∧ Acted W gd F' (stepO (at_ + 1) T s).2 W' :=
        fun W F' s hb hd hf hsu hwa => (callsIn_wide (n := 3)).1 (others_in hd (hinW W hb) hL (by omega) hs (hFa F' hf) hk hnc (by omega) (by omega) (by omega))
      refine call_steps (C := C) (n := 4) (cap := 4) h1 _ [(80, #[.pointer (some ⟨gd, 0, none⟩)]), (180, #[addedV gd at_ (.slice (some a) (64 * k) c)]), (80, #[.pointer (some ⟨gd, 0, none⟩)]), (179, #[addedV gd at_ (.slice (some a) (64 * k) c)])] rfl rfl (by decide) ?_ ?_ hC ?_ ?_
      · intro j f bd hj zs W
        rcases j with _ | _ | _ | _ | j
        · cases hj; show (callFunc 80 zs).run Tryz.prog W = .ok (.enter 80 zs) W; kernel_rfl
        · cases hj; show (callFunc 180 zs).run Tryz.prog W = .ok (.enter 180 zs) W; kernel_rfl
        · cases hj; show (callFunc 80 zs).run Tryz.prog W = .ok (.enter 80 zs) W; kernel_rfl
        · cases hj; show (callFunc 179 zs).run Tryz.prog W = .ok (.enter 179 zs) W; kernel_rfl
        · simp at hj
      · intro j f bd hj
        rcases j with _ | _ | _ | _ | j
        · cases hj; rw [cell_of_row _ C 0 _ _ (0, 0) row]; rfl
        · cases hj; rw [cell_of_row _ C 1 _ _ (0, 0) row]; rfl
        · cases hj; rw [cell_of_row _ C 2 _ _ (0, 0) row]; rfl
        · cases hj; rw [cell_of_row _ C 3 _ _ (0, 0) row]; rfl
        · simp at hj
      · intro f hf s
        simp only [List.mem_cons, List.not_mem_nil, or_false, List.tail_cons] at hf
        rcases hf with rfl | rfl | rfl | rfl
        · exact stepS_q s
        · exact stepO_q _ _ (by omega) s
        · exact stepS_q s
        · exact stepW_q _ _ s
      · intro j f bd g hj hg W F' s hb hd hf hsu hwa
        rcases j with _ | _ | _ | _ | j
        · cases hj; cases hg; exact cS W F' s hd
        · cases hj; cases hg; exact cO W F' s hb hd hf hsu (by omega)
        · cases hj; cases hg; exact cS W F' s hd
        · cases hj; cases hg; exact cF W F' s hb hd hf hsu (by omega)
        · simp at hj

end Go.Proofs.YthbgcijkpincfaaGreatDoor

/-
  Add.
-/
namespace Go.Proofs.YthbgcijkpincfaaGreatDoor
open Go.RowKit

theorem in_but0 {S : Nat → Prop} {w w' : World} {A : Option Addr} {n : Nat} {xs : List Nat} (h : In w A n xs) (hb : But S w w') (hA : ∀ ad, A = some ad → 0 < n → ¬ S ad.block) : In w' A n xs := by
  by_cases h0 : 0 < n
  · exact in_but h hb (fun ad e => hA ad e h0)
  · obtain rfl : n = 0 := by omega
    obtain rfl : xs = [] := List.length_eq_zero_iff.1 h.len
    exact In.none_ _ _

theorem Sm.add_eq {m : Sm} {from_ many : Nat} {xs : List Nat} (h1 : xs.length ≤ 256) (h2 : secs xs.length ≤ many - usedL m.l) :
    m.add from_ many xs = if (m.calls (from_ + usedL m.l) (fsecs (m.l.length + 1) xs)).1 = 0 then (0, ⟨(m.calls (from_ + usedL m.l) (fsecs (m.l.length + 1) xs)).2.st, m.l ++ [xs], (m.calls (from_ + usedL m.l) (fsecs (m.l.length + 1) xs)).2.down⟩) else m.calls (from_ + usedL m.l) (fsecs (m.l.length + 1) xs) := by
  unfold Sm.add Sm.calls
  rw [if_neg (by omega), if_neg (by omega)]
  by_cases hd : m.down = true
  · simp [hd]
  · rw [if_neg hd, if_neg hd]
    by_cases h0 : (runs (addSteps (from_ + usedL m.l) (fsecs (m.l.length + 1) xs)) m.st).1 = 0
    · simp [h0]
    · simp [h0]

theorem own_zero {w : World} {b n : Nat} {e : TypeId} {sz : Nat} {v : Value} {ys : List Value} (h : w.ownsRow b e sz v n ys) : w.ownsRow 0 e sz v n ys := by
  refine ⟨h.1, ?_⟩
  rcases h.2 with h | ⟨g, cap, cur, e, _, rest⟩
  · exact .inl h
  · exact .inr ⟨g, cap, cur, e, Nat.zero_le _, rest⟩
theorem went_then {w w1 w2 : World} {gd sb from_ many : Nat} {m2 : Sm} {F G F' G' : Nat → Prop} (hb : But (fun x => F x ∨ G x) w w1) (hf : ∀ x, F' x → F x ∨ w.heap.size ≤ x) (hg : ∀ x, G' x → G x ∨ w.heap.size ≤ x) (h : Went w1 gd sb from_ many F' G' m2 w2) : Went w gd sb from_ many F G m2 w2 := by
  obtain ⟨F2, G2, hh, hb2, hf2, hg2⟩ := h
  refine ⟨F2, G2, hh, hb.next hb2 (fun x hx e => ?_), fun x hx => ?_, fun x hx => ?_⟩
  · rcases e with e | e
    · exact (hf x e).elim .inl (fun k => by omega)
    · exact (hg x e).elim .inr (fun k => by omega)
  · rcases hf2 x hx with k | k
    · exact hf x k
    · exact .inr (Nat.le_trans hb.size k)
  · rcases hg2 x hx with k | k
    · exact hg x k
    · exact .inr (Nat.le_trans hb.size k)
theorem keep_went {w : World} {gd sb from_ many : Nat} {m : Sm} {F G : Nat → Prop} {xs : List Nat} (h : Held_ w gd sb from_ many m F G) (hb : xs.length ≤ 256 ∧ ∀ x ∈ xs, x < 256) (hf : usedL m.l + secs xs.length ≤ many) (hm : many ≤ 1000000) (W : World) (u : Value) (hW : Below w.heap.size w W)
    (hu : W.ownsRow 0 5 1 u xs.length (bvs xs)) (hub : ∀ x, u.ownBlock = some x → w.heap.size ≤ x) :
    Calls Tryz.prog 91 #[.pointer (some ⟨sb, 0, none⟩), u, .int .i64 ((secs xs.length : Nat) : Int)] W fun e w' => e = .returned (.tuple #[]) ∧ Went w gd sb from_ many F G ⟨m.st, m.l ++ [xs], m.down⟩ w' := by
  have h1 := h.below hW
  refine (keep_sto h1.s hu hb hf hm).mono ?_
  rintro e w' ⟨he, hbt, G', hs, hg⟩
  refine ⟨he, F, G', ⟨h1.d.but hbt (fun x hx hg2 => h.ap x hx hg2), hs, fun x hx hg2 => ?_, h.fits⟩, (But.of_below hW).trans (hbt.mono (fun x _ e => .inr e)), fun x hx => .inl hx, fun x hx => ?_⟩
  · have hx1 := h.d.2.2 x hx
    rcases hg x hg2 with k | k | k
    · exact h.ap x hx k
    · have := hub x k; omega
    · have := hW.size; omega
  · rcases hg x hx with k | k | k
    · exact .inl k
    · exact .inr (hub x k)
    · exact .inr (Nat.le_trans hW.size k)

set_option maxRecDepth 100000 in
set_option maxHeartbeats 2000000 in
theorem sadd_any {w : World} {gd sb from_ many : Nat} {F G : Nat → Prop} {m : Sm} {A : Option Addr} {n c : Nat} {xs : List Nat} (h : Held_ w gd sb from_ many m F G) (hin : In w A n xs) (hx : ∀ x ∈ xs, x < 256) (hA : A = none → c = 0) (hnc : n ≤ c)
    (hAF : ∀ ad, A = some ad → 0 < n → ¬ (F ad.block ∨ G ad.block)) (hw : m.st.waits.length ≤ 800000) :
    Calls Tryz.prog 22 #[.pointer (some ⟨sb, 0, none⟩), .slice A n c] w fun e w' => e = .returned (.int .i64 (m.add from_ many xs).1) ∧ Went w gd sb from_ many F G (m.add from_ many xs).2 w' := by
  obtain ⟨⟨v, vals, hh⟩, hG⟩ := h.s
  have hle := h.d.1.le
  have hfit := h.fits
  have hmany : many ≤ 4096 := by omega
  have hA0 : A = none → n = 0 := fun e => by have := hA e; omega
  have CT := there_sto hh
  have hul := hh.fits
  have hll : m.l.length ≤ 1000000 := by have := len_le_used m.l; omega
  have CN := next_sto hh hll
  by_cases hbig : 256 < n
  · have CP := put_great (m.l.length + 1) n c A w hbig
    have e1 : m.add from_ many xs = (3, m) := by unfold Sm.add; rw [if_pos (by rw [hin.len]; exact hbig)]
    rw [e1]
    have HW := Lib.hid (went_refl h (Below.refl _ w))
    have HP := Lib.hid CP
    clear h hin hx hA hnc hAF hh hG hfit hA0 hul hll CP e1
    go_enter Tryz.func22, Tryz.ntmps22
    go_wp2_with fail
    refine CT.mono ?_
    rintro e w1 ⟨rfl, rfl⟩
    go_wp2_with fail
    refine CN.mono ?_
    rintro e w1 ⟨rfl, rfl⟩
    go_wp2_with fail
    refine HP.out.mono ?_
    rintro e w1 ⟨rfl, rfl⟩
    go_wp2
    go_ret
    exact ⟨rfl, HW.out⟩
  · have hn : n ≤ 256 := by omega
    have CP := put_frame (m.l.length + 1) n c A xs w hn hin hx hA0 hnc
    have CL := fun (W : World) (hb : Below w.heap.size w W) => left_sto (hh.blocks (fun x hx => hb.block x (hG x hx))) (by omega : many ≤ 1000000)
    have hxl := hin.len
    obtain ⟨k, hk⟩ : ∃ k, secs n = k := ⟨_, rfl⟩
    have hk5 : k ≤ 5 := hk ▸ secs_le n hn
    have hk0 : 0 < k := hk ▸ secs_pos n
    obtain ⟨lf, hlf⟩ : ∃ lf, many - usedL m.l = lf := ⟨_, rfl⟩
    have hlf1 : lf ≤ 4096 := by omega
    unfold PutPost at CP
    rw [hk] at CP
    rw [hlf] at CL
    by_cases hfull : lf < k
    · have e1 : m.add from_ many xs = (11, m) := by unfold Sm.add; rw [if_neg (by omega), if_pos (by rw [hxl, hk, hlf]; exact hfull)]
      rw [e1]
      have HW := Lib.hid h
      have HP := Lib.hid CP
      have HL := Lib.hid CL
      have hcmp : (64 : Int) * (lf : Int) < ((64 * k : Nat) : Int) := by omega
      obtain ⟨n64, hn64⟩ : ∃ n64, 64 * k = n64 := ⟨_, rfl⟩
      rw [hn64] at HP hcmp
      clear h hin hx hA hnc hAF hh hG hfit hA0 hul hll CP e1 CL hk hlf hn64 hn hbig
      go_enter Tryz.func22, Tryz.ntmps22
      go_wp2_with fail
      refine CT.mono ?_
      rintro e w1 ⟨rfl, rfl⟩
      go_wp2_with fail
      refine CN.mono ?_
      rintro e w1 ⟨rfl, rfl⟩
      go_wp2_with fail
      refine HP.out.mono ?_
      rintro e w2 ⟨A2, c2, rfl, ho2, hb2⟩
      have HB2 := Lib.hid hb2
      clear ho2 hb2
      go_wp2_with fail
      refine (HL.out _ HB2.out).mono ?_
      rintro e w3 ⟨rfl, hb3⟩
      go_wp2
      go_ret
      exact ⟨rfl, went_refl HW.out (below_on HB2.out (Nat.le_refl _) hb3)⟩
    · have e1 := Sm.add_eq (m := m) (from_ := from_) (many := many) (xs := xs) (by omega) (by rw [hxl, hk, hlf]; omega)
      rw [e1]
      have hcmp : ¬ (64 : Int) * (lf : Int) < ((64 * k : Nat) : Int) := by omega
      obtain ⟨v0, hv0⟩ : ∃ v0, v0 = v := ⟨_, rfl⟩
      have c0 := hh.c0
      have c1 := hh.c1
      have c4 := hh.c4
      obtain ⟨us, hus⟩ : ∃ us, usedL m.l = us := ⟨_, rfl⟩
      rw [hus] at c4 hlf hul ⊢
      obtain ⟨at_, hat⟩ : ∃ at_, from_ + us = at_ := ⟨_, rfl⟩
      have hsum : (from_ : Int) + (us : Int) = (at_ : Int) := by omega
      have hfu : at_ ≤ 4096 := by omega
      have hwr : IntKind.i64.wrap (at_ : Int) = (at_ : Int) := by rw [IntKind.wrap_i64]; omega
      rw [hat]
      obtain ⟨⟨z, m1⟩, hzm⟩ : ∃ r, m.calls at_ (fsecs (m.l.length + 1) xs) = r := ⟨_, rfl⟩
      rw [hzm]
      have HZ := Lib.hid hzm
      have HAT := Lib.hid hat
      have H := Lib.hid (And.intro h (And.intro hin (And.intro hx (And.intro hA (And.intro hnc hAF)))))
      have H2 := Lib.hid (And.intro hh (And.intro hG (And.intro hfit (And.intro hul (And.intro hus (And.intro hlf (And.intro hk (And.intro hxl (And.intro hw hle)))))))))
      have HP := Lib.hid CP
      have HL := Lib.hid CL
      have HM := Lib.hid (And.intro hmany (And.intro hfull (And.intro hk5 (And.intro hk0 hn))))
      obtain ⟨n64, hn64⟩ : ∃ n64, 64 * k = n64 := ⟨_, rfl⟩
      have hn6 : n64 ≤ 320 := by omega
      rw [hn64] at HP hcmp
      have HN := Lib.hid hn64
      have hwlt : ∀ i v, w.cell? ⟨sb, i, none⟩ = some v → sb < w.heap.size := fun i v hc => World.block_lt_of_cell? w _ hc
      clear h hin hx hA hnc hAF hh hG hfit hA0 hul hll CP e1 CL hk hlf hn64 hn hbig hfull hus hxl hw hle hmany hk5 hk0 hv0 hat hzm
      go_enter Tryz.func22, Tryz.ntmps22
      go_wp2_with fail
      refine CT.mono ?_
      rintro e w1 ⟨rfl, rfl⟩
      go_wp2_with fail
      refine CN.mono ?_
      rintro e w1 ⟨rfl, rfl⟩
      go_wp2_with fail
      refine HP.out.mono ?_
      rintro e w2 ⟨A2, c2, rfl, ho2, hb2⟩
      have HB2 := Lib.hid (And.intro hb2 ho2)
      have hcap : n64 ≤ c2 := own_cap ho2
      clear ho2 hb2
      go_wp2_with fail
      refine (HL.out _ HB2.out.1).mono ?_
      rintro e w3 ⟨rfl, hb3⟩
      have HB3 : Hid (Below w.heap.size w w3) := below_on HB2.out.1 (Nat.le_refl _) hb3
      have d0 : w3.cell? ⟨sb, 0, none⟩ = some (.pointer (some ⟨gd, 0, none⟩)) := (HB3.out.cell (hwlt _ _ c0)).trans c0
      have d1 : w3.cell? ⟨sb, 1, none⟩ = some (.int .i64 (from_ : Int)) := (HB3.out.cell (hwlt _ _ c1)).trans c1
      have d4 : w3.cell? ⟨sb, 4, none⟩ = some (.int .i64 (us : Int)) := (HB3.out.cell (hwlt _ _ c4)).trans c4
      have e0 : ∀ o, (w3.alloc o).cell? ⟨sb, 0, none⟩ = some (.pointer (some ⟨gd, 0, none⟩)) := fun o => ((below_alloc w3 o).cell (World.block_lt_of_cell? w3 _ d0)).trans d0
      have e1 : ∀ o, (w3.alloc o).cell? ⟨sb, 1, none⟩ = some (.int .i64 (from_ : Int)) := fun o => ((below_alloc w3 o).cell (World.block_lt_of_cell? w3 _ d1)).trans d1
      have e4 : ∀ o, (w3.alloc o).cell? ⟨sb, 4, none⟩ = some (.int .i64 (us : Int)) := fun o => ((below_alloc w3 o).cell (World.block_lt_of_cell? w3 _ d4)).trans d4
      have HB33 := Lib.hid hb3
      clear hb3 c0 c1 c4 hwlt
      go_wp2_with fail
      go_region
      obtain ⟨a2, rfl⟩ : ∃ a2, A2 = some a2 := by
        have hin2 := In.of_own HB2.out.2
        obtain ⟨ad, x, e, _⟩ := hin2.at_ (k := 0) (by have := HN.out; have := HM.out.2.2.2.1; omega)
        exact ⟨ad, e⟩
      have hw4r : (w3.alloc (.cells #[.pointer (some ⟨gd, 0, none⟩), .int .i64 (at_ : Int), .slice (some a2) n64 c2] 147)).drew.heap[w3.heap.size]? = some (.cells #[.pointer (some ⟨gd, 0, none⟩), .int .i64 (at_ : Int), .slice (some a2) n64 c2] 147 (0, 0)) := World.alloc_heap_new w3 _
      have hw4b : Below w3.heap.size w3 (w3.alloc (.cells #[.pointer (some ⟨gd, 0, none⟩), .int .i64 (at_ : Int), .slice (some a2) n64 c2] 147)).drew := (below_alloc w3 _).drew
      obtain ⟨w4, hw4⟩ : ∃ w4, (w3.alloc (.cells #[.pointer (some ⟨gd, 0, none⟩), .int .i64 (at_ : Int), .slice (some a2) n64 c2] 147)).drew = w4 := ⟨_, rfl⟩
      obtain ⟨T, hT⟩ : ∃ T, w3.heap.size = T := ⟨_, rfl⟩
      rw [hw4] at hw4r hw4b ⊢
      rw [hT] at hw4r ⊢
      have t0 : w4.cell? ⟨T, 0, none⟩ = some (.pointer (some ⟨gd, 0, none⟩)) := by rw [cell_of_row _ T 0 _ _ (0, 0) hw4r]; rfl
      have t1 : w4.cell? ⟨T, 1, none⟩ = some (.int .i64 (at_ : Int)) := by rw [cell_of_row _ T 1 _ _ (0, 0) hw4r]; rfl
      have t2 : w4.cell? ⟨T, 2, none⟩ = some (.slice (some a2) n64 c2) := by rw [cell_of_row _ T 2 _ _ (0, 0) hw4r]; rfl
      have HB4 : Hid (Below w.heap.size w w4) := HB3.out.trans (hw4b.mono HB3.out.size)
      have CC := calls_added (w := w4) (gd := gd) (at_ := at_) (A := some a2) (k := k) (c := c2) HM.out.2.2.1
      rw [HN.out] at CC
      unfold addedV at CC
      have HR4 := Lib.hid (And.intro hw4r (And.intro hw4b hT))
      have HCC := Lib.hid CC
      clear hw4r hw4b hw4 hT CC e0 e1 e4 d0 d1 d4
      go_wp2_with fail
      refine HCC.out.mono ?_
      rintro e w5 ⟨C, nn, rfl, hb5, hC5, hca⟩
      clear HCC
      have hd5 := HB4.out.trans (hb5.mono HB4.out.size)
      have h5 := H.out.1.below hd5
      have hfrI : In w5 (some a2) (64 * k) (fsecs (m.l.length + 1) xs).flatten := by
        rw [fsecs_flat, HN.out]
        exact (In.of_own HB2.out.2).below ((HB33.out.trans (HR4.out.2.1.mono HB33.out.size)).trans (hb5.mono (Nat.le_trans HB33.out.size HR4.out.2.1.size)))
      have ha2 : w.heap.size ≤ a2.block := by
        rcases HB2.out.2.2 with ⟨e, _⟩ | ⟨g1, cap, cur, e, hg1, _⟩
        · cases e
        · cases e; exact hg1
      have hF := H.out.1.d.2.2
      have hG := H.out.1.s.2
      have CA := call_added (at_ := at_) (k := k) (c := c2) (C := C) (nn := nn) (L := fsecs (m.l.length + 1) xs) h5 (by rw [HN.out]; exact hca) (fun e => by have := hF _ e; have := HB4.out.size; omega) hfrI
        (by rw [fsecs_length, H2.out.2.2.2.2.2.2.2.1, H2.out.2.2.2.2.2.2.1]) (fsecs_sec _ _ H.out.2.2.1) (fun e => by have := hF _ e; omega) HM.out.2.2.2.1 HM.out.2.2.1 (by rw [HN.out]; exact hcap)
        (by have h3 := H2.out.2.2.1; have h8 := H2.out.2.2.2.1; have h4 := H2.out.2.2.2.2.2.1; have h6 := HM.out.2.1; have h7 := HAT.out; omega) H2.out.2.2.2.2.2.2.2.2.1
      have t5 : w5.heap[T]? = some (.cells #[.pointer (some ⟨gd, 0, none⟩), .int .i64 (at_ : Int), .slice (some a2) n64 c2] 147 (0, 0)) := (hb5.block T (Array.getElem?_eq_some_iff.1 HR4.out.1).1).trans HR4.out.1
      rw [HZ.out] at CA
      have hm1l : m1.l = m.l := by
        have e : (m.calls at_ (fsecs (m.l.length + 1) xs)).2.l = m.l := by unfold Sm.calls; split <;> rfl
        rw [HZ.out] at e; exact e
      have H5 := Lib.hid (And.intro hd5 (And.intro t5 (And.intro hF (And.intro hG hm1l))))
      have HCA := Lib.hid CA
      clear hd5 h5 hfrI ha2 hF hG CA t5 hca hb5 hC5 t0 t1 t2 hm1l
      by_cases hz : z = 0
      · subst hz
        go_wp2_with fail
        refine HCA.out.mono ?_
        rintro e w6 ⟨rfl, F', G', hh6, hb6, hf6, hg6⟩
        clear HCA
        have t6 : w6.heap[T]? = some (.cells #[.pointer (some ⟨gd, 0, none⟩), .int .i64 (at_ : Int), .slice (some a2) n64 c2] 147 (0, 0)) := by
          refine (hb6.block T (Array.getElem?_eq_some_iff.1 H5.out.2.1).1 (fun e => ?_)).trans H5.out.2.1
          have hTw : w.heap.size ≤ T := by have := HB3.out.size; have := HR4.out.2.2; omega
          rcases e with e | e
          · have := H5.out.2.2.1 _ e; omega
          · have := H5.out.2.2.2.1 _ e; omega
        have s0 : w6.cell? ⟨T, 0, none⟩ = some (.pointer (some ⟨gd, 0, none⟩)) := by rw [cell_of_row _ T 0 _ _ (0, 0) t6]; rfl
        have s1 : w6.cell? ⟨T, 1, none⟩ = some (.int .i64 (at_ : Int)) := by rw [cell_of_row _ T 1 _ _ (0, 0) t6]; rfl
        have s2 : w6.cell? ⟨T, 2, none⟩ = some (.slice (some a2) n64 c2) := by rw [cell_of_row _ T 2 _ _ (0, 0) t6]; rfl
        have hin6 : In w6 A n xs := in_but0 (H.out.2.1.below H5.out.1) hb6 H.out.2.2.2.2.2
        have hxl := H2.out.2.2.2.2.2.2.2.1
        have KW := keep_went (xs := xs) hh6 ⟨by have := HM.out.2.2.2.2; omega, H.out.2.2.1⟩ (by
          have h1 := H2.out.2.2.2.1; have h2 := H2.out.2.2.2.2.1; have h3 := H2.out.2.2.2.2.2.1; have h4 := H2.out.2.2.2.2.2.2.1; have h5 := HM.out.2.1
          rw [H5.out.2.2.2.2, h2, hxl, h4]; omega) (by have := HM.out.1; omega)
        rw [hxl, H2.out.2.2.2.2.2.2.1, H5.out.2.2.2.2] at KW
        have HKW := Lib.hid KW
        have CCl := Lib.hid (fun (W : World) (hb : Below w6.heap.size w6 W) => clone_bytes A n c xs W (hin6.below hb) H.out.2.2.2.1 H.out.2.2.2.2.1 (by have := HM.out.2.2.2.2; omega))
        have CSe := Lib.hid (fun (W : World) => (by have h := sectors_added (w := W) (gd := gd) (at_ := at_) (A := some a2) (k := k) (c := c2) (by have := HM.out.2.2.1; omega); rw [HN.out] at h; unfold addedV at h; exact h : Calls Tryz.prog 93 #[.agg #[.pointer (some ⟨gd, 0, none⟩), .int .i64 (at_ : Int), .slice (some a2) n64 c2]] W fun e w' => e = .returned (.int .i64 (k : Int)) ∧ Below W.heap.size W w'))
        have H6 := Lib.hid (And.intro hb6 (And.intro hf6 (And.intro hg6 t6)))
        clear hh6 hb6 hf6 hg6 t6 hin6 KW hxl
        go_wp2_with fail
        go_region_law (first
          | (go_simp; go_at_call 92; refine (CCl.out _ (by first | exact (Below.refl _ w6).drew | exact bS)).mono ?_; rintro e w7 ⟨u, rfl, hou, hbc⟩; have bC : Below w6.heap.size w6 w7 := (by first | exact (Below.refl _ w6).drew.trans hbc | exact bS.trans (hbc.mono bS.size)); have s0 := (bC.cell (World.block_lt_of_cell? w6 _ s0)).trans s0; have s1 := (bC.cell (World.block_lt_of_cell? w6 _ s1)).trans s1; have s2 := (bC.cell (World.block_lt_of_cell? w6 _ s2)).trans s2)
          | (go_simp; go_at_call 93; refine (CSe.out _).mono ?_; rintro e w8 ⟨rfl, hbs⟩; have bS : Below w6.heap.size w6 w8 := (by first | exact (Below.refl _ w6).drew.trans hbs | exact bC.trans (hbs.mono bC.size)))
          | (go_simp; go_at_call 91; refine (HKW.out _ u (by first | exact bS | exact bC) (by first | exact own_zero hou | exact own_zero (own_block hou (fun b hb => hbs.block b (own_lt hou hb)))) (fun x hx => ?_)).mono ?_; (first | exact (hou.lt x hx).1 | exact Nat.le_trans bS.size (hou.lt x hx).1); rintro e w9 ⟨rfl, hw9⟩))
        all_goals
          go_wp2
          go_ret
          refine ⟨rfl, ?_⟩
          exact Went.after H5.out.1 (went_then H6.out.1 H6.out.2.1 H6.out.2.2.1 hw9)
      · have hzi : (z != 0) = true := by simpa using hz
        go_wp2_with fail
        refine HCA.out.mono ?_
        rintro e w6 ⟨rfl, hw6⟩
        go_wp2
        go_ret
        exact ⟨rfl, hw6.after H5.out.1⟩

end Go.Proofs.YthbgcijkpincfaaGreatDoor

/-
  The document's own store and disk, apart; between two calls of the disk; one record more.
-/
namespace Go.Proofs.YthbgcijkpincfaaGreatDoor
open Go.RowKit

theorem rne_hv : 124 ≠ 50 := by decide
theorem rne_hr : 124 ≠ 5 := by decide
theorem rne_vr : 50 ≠ 5 := by decide

/-- One record more. -/
theorem RStoAt.keeps {w w2 w3 : World} {g gd from_ many : Nat} {v v' u : Value} {vals : List Value} {G : Nat → Prop} {l : List (List Nat)} {b : List Nat} (h : RStoAt w g gd from_ many v vals G l)
    (hu : w.ownsRow 0 5 1 u b.length (bvs b)) (hb : b.length ≤ 256 ∧ ∀ x ∈ b, x < 256) (hf : usedL l + secs b.length ≤ many)
    (hown : w2.ownsRow 0 50 1 v' (l.length + 1) (vals ++ [u])) (hgr : ∀ x, x < w.heap.size → v.ownBlock ≠ some x → w2.heap[x]? = w.heap[x]?) (hv : ∀ x, v'.ownBlock = some x → v.ownBlock = some x ∨ w.heap.size ≤ x)
    (hw3 : w3 = (w2.setCell ⟨g, 4, none⟩ v').setCell ⟨g, 3, none⟩ (.int .i64 ((usedL l + secs b.length : Nat) : Int))) :
    RStoAt w3 g gd from_ many v' (vals ++ [u]) (fun x => G x ∨ v'.ownBlock = some x ∨ u.ownBlock = some x) (l ++ [b]) := by
  have hgl := h.lt
  have hne : ∀ x, v.ownBlock = some x → x ≠ g := fun x hx e => by
    obtain ⟨cur, hc⟩ := own_type h.row hx
    exact block_ne h.head hc rne_hv e.symm
  have hh2 : w2.heap[g]? = w.heap[g]? := hgr g hgl (fun e => hne g e rfl)
  have h3 : ∀ x, x ≠ g → w3.heap[x]? = w2.heap[x]? := fun x hx => by rw [hw3, Below.heap_setCell _ _ _ _ hx, Below.heap_setCell _ _ _ _ hx]
  have hv' : ∀ x, v'.ownBlock = some x → x ≠ g := fun x hx e => by
    rcases hv x hx with k | k
    · exact hne x k e
    · omega
  have keepR : ∀ (t : Value) (c : List Nat), w.ownsRow 0 5 1 t c.length (bvs c) → w3.ownsRow 0 5 1 t c.length (bvs c) := fun t c ht => own_block ht (fun x hx => by
    obtain ⟨cur, hc⟩ := own_type ht hx
    have n1 : x ≠ g := fun e => block_ne h.head hc rne_hr e.symm
    rw [h3 x n1]
    refine hgr x (own_lt ht hx) (fun e => ?_)
    obtain ⟨cur2, hc2⟩ := own_type h.row e
    exact block_ne hc2 hc rne_vr rfl)
  refine ⟨?_, ?_, by rw [List.length_append, List.length_append, h.len]; rfl, ?_, .inl h.gg, fun x hx => .inr (.inl hx), ?_, by rw [usedL_snoc]; exact hf⟩
  · have e1 := heap_setCell_same w2 g 4 _ _ v' (hh2.trans h.head)
    have e2 := heap_setCell_same _ g 3 _ _ (.int .i64 ((usedL l + secs b.length : Nat) : Int)) e1
    rw [hw3, usedL_snoc]
    exact e2
  · rw [List.length_append]
    exact own_block hown (fun x hx => h3 x (hv' x hx))
  · intro i t c ht hc
    by_cases hi : i < vals.length
    · rw [List.getElem?_append_left hi] at ht
      rw [List.getElem?_append_left (by rw [← h.len]; exact hi)] at hc
      have := h.recs i t c ht hc
      exact ⟨keepR t c this.1, fun x hx => .inl (this.2 x hx)⟩
    · have e0 : i = vals.length := by have := (List.getElem?_eq_some_iff.1 ht).1; simp at this; omega
      subst e0
      rw [List.getElem?_append_right (Nat.le_refl _)] at ht
      rw [h.len, List.getElem?_append_right (Nat.le_refl _)] at hc
      simp at ht hc
      subst ht hc
      exact ⟨keepR _ _ hu, fun x hx => .inr (.inr hx)⟩
  · intro c hc
    rcases List.mem_append.1 hc with hc | hc
    · exact h.ok c hc
    · rw [List.mem_singleton.1 hc]; exact hb

/-- The document's disk and a store on it, apart. -/
structure RHeld (w : World) (gd g from_ many : Nat) (st : St) (l : List (List Nat)) (F G : Nat → Prop) : Prop where
  d : RDisk w gd F st
  s : RSto w g gd from_ many G l
  ap : ∀ x, F x → ¬ G x
  fits : from_ + many ≤ st.sure.length
/-- What a call on both leaves. -/
def RWent (w : World) (gd g from_ many : Nat) (F G : Nat → Prop) (st : St) (l : List (List Nat)) (w' : World) : Prop :=
  ∃ F' G', RHeld w' gd g from_ many st l F' G' ∧ But (fun x => F x ∨ G x) w w' ∧ (∀ x, F' x → F x ∨ w.heap.size ≤ x) ∧ ∀ x, G' x → G x ∨ w.heap.size ≤ x

section
variable {w w' : World} {gd g from_ many : Nat} {st st' : St} {l l' : List (List Nat)} {F G : Nat → Prop}
theorem RHeld.below (h : RHeld w gd g from_ many st l F G) (hb : Below w.heap.size w w') : RHeld w' gd g from_ many st l F G := ⟨h.d.below hb, h.s.below hb, h.ap, h.fits⟩
theorem rwent_refl (h : RHeld w gd g from_ many st l F G) (hb : Below w.heap.size w w') : RWent w gd g from_ many F G st l w' := ⟨F, G, h.below hb, But.of_below hb, fun _ hx => .inl hx, fun _ hx => .inl hx⟩
theorem RWent.after {w1 : World} (h1 : Below w.heap.size w w1) (h : RWent w1 gd g from_ many F G st' l' w') : RWent w gd g from_ many F G st' l' w' := by
  obtain ⟨F', G', hh, hb, hf, hg⟩ := h
  exact ⟨F', G', hh, (But.of_below h1).trans hb, fun x hx => (hf x hx).imp id (fun e => Nat.le_trans h1.size e), fun x hx => (hg x hx).imp id (fun e => Nat.le_trans h1.size e)⟩

/-- Between two calls of the disk. -/
def RAmid (w : World) (gd : Nat) (F : Nat → Prop) (s : St) (W : World) : Prop := But F w W ∧ ∃ F', RDisk W gd F' s ∧ ∀ x, F' x → F x ∨ w.heap.size ≤ x
theorem ramid_refl (h : RDisk w gd F st) : RAmid w gd F st w := ⟨But.refl _ _, F, h, fun _ hx => .inl hx⟩
theorem RAmid.act {W W' : World} {F' : Nat → Prop} {s' : St} (hb : But F w W) (hf : ∀ x, F' x → F x ∨ w.heap.size ≤ x) (h : RActed W gd F' s' W') : RAmid w gd F s' W' := by
  obtain ⟨F2, hd, hb2, hf2⟩ := h
  refine ⟨hb.next hb2 (fun x hx e => (hf x e).elim id (fun k => by omega)), F2, hd, fun x hx => ?_⟩
  rcases hf2 x hx with k | k
  · exact hf x k
  · exact .inr (Nat.le_trans hb.size k)
theorem RAmid.drew {W : World} (h : RAmid w gd F st W) : RAmid w gd F st W.drew := by
  obtain ⟨hb, F', hd, hf⟩ := h
  exact ⟨hb.drew, F', hd.below ((Below.refl _ W).drew), hf⟩
/-- What stands on the disk then, and the store as it was. -/
theorem RAmid.went {W : World} (h : RHeld w gd g from_ many st l F G) (ha : RAmid w gd F st' W) (hs : st'.sure.length = st.sure.length) : RWent w gd g from_ many F G st' l W := by
  obtain ⟨hb, F', hd, hf⟩ := ha
  refine ⟨F', G, ⟨hd, h.s.but hb (fun x hg hf => h.ap x hf hg), fun x hx hg => ?_, by rw [hs]; exact h.fits⟩, hb.mono (fun x _ e => .inl e), hf, fun x hx => .inl hx⟩
  rcases hf x hx with k | k
  · exact h.ap x k hg
  · have := h.s.2 x hg; omega
end

/-- Sync and Write of the document's disk, whatever it lets be. -/
theorem rsync_all {w : World} {gd : Nat} {F : Nat → Prop} {st : St} (hd : RDisk w gd F st) :
    Calls Tryz.prog 77 #[.pointer (some ⟨gd, 0, none⟩)] w fun e w' => e = .returned (.int .i64 st.sc) ∧ RActed w gd F st.sn w' := by
  by_cases hl : st.lets = 0
  · have e1 : st.sc = 9 := by unfold St.sc; rw [if_pos hl]
    have e2 : st.sn = st.burnt := by unfold St.sn; rw [if_pos hl]
    rw [e1, e2]; exact rsync_blow hl hd
  · have e1 : st.sc = 0 := by unfold St.sc; rw [if_neg hl]
    have e2 : st.sn = st.burnt.settled := by unfold St.sn; rw [if_neg hl]
    rw [e1, e2]; exact rsync_any hl hd
theorem rwrite_all {w : World} {g : Nat} {F : Nat → Prop} {s : St} {k n c : Nat} {A : Option Addr} {xs : List Nat} (hk : k < s.sure.length) (hn : n ≤ 64) (hin : In w A n xs) (hb : ∀ x ∈ xs, x < 256) (hA : 0 < n → ∀ ad, A = some ad → ¬ F ad.block) (hw : s.waits.length ≤ 1000000) (h : RDisk w g F s) :
    Calls Tryz.prog 21 #[.pointer (some ⟨g, 0, none⟩), .int .i64 (k : Int), .slice A n c] w fun e w' => e = .returned (.int .i64 s.sc) ∧ RActed w g F (s.wn k xs) w' := by
  by_cases hl : s.lets = 0
  · have e1 : s.sc = 9 := by unfold St.sc; rw [if_pos hl]
    have e2 : s.wn k xs = s.burnt := by unfold St.wn; rw [if_pos hl]
    rw [e1, e2]; exact rwrite_blow hk A n c hn hl h
  · have e1 : s.sc = 0 := by unfold St.sc; rw [if_neg hl]
    have e2 : s.wn k xs = s.wrote k xs := by unfold St.wn; rw [if_neg hl]
    rw [e1, e2]; exact rwrite_any hk hn hin hb hA hl hw h

end Go.Proofs.YthbgcijkpincfaaGreatDoor
