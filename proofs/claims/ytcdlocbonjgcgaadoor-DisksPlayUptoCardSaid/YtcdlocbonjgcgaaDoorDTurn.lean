/-
  disks: Turn.
-/
import Derived.Test.YtcdlocbonjgcgaaDoorDSync
namespace Go.Proofs.YtcdlocbonjgcgaaDoor
open Go.RowKit

/-- A sector of which a byte is turned. -/
def turnAt (xs : List Nat) (k y : Nat) : List Nat := xs.set k (xs.getD k 0 ^^^ y)
def St.turned (s : St) (n k y : Nat) : St := ⟨s.read.set n (turnAt (s.read.getD n []) k y), [], s.lets, s.blown⟩
theorem turnAt_length (xs : List Nat) (k y : Nat) : (turnAt xs k y).length = xs.length := List.length_set
theorem xor_lt {x y : Nat} (hx : x < 256) (hy : y < 256) : x ^^^ y < 256 := Nat.xor_lt_two_pow (n := 8) hx hy
theorem turnAt_sec {xs : List Nat} {k y : Nat} (h : Sec xs) (hy : y < 256) : Sec (turnAt xs k y) := by
  refine ⟨by rw [turnAt_length]; exact h.1, fun x hx => ?_⟩
  rcases List.mem_or_eq_of_mem_set hx with h1 | h1
  · exact h.2 x h1
  · rw [h1]
    refine xor_lt ?_ hy
    rw [List.getD_eq_getElem?_getD]
    cases e : xs[k]? with
    | none => simp
    | some z => exact h.2 z (List.mem_of_getElem? e)
theorem St.Ok.turned {s : St} (h : s.Ok) {n k y : Nat} (hn : n < s.sure.length) (hy : y < 256) : (s.turned n k y).Ok := by
  have e : (s.turned n k y).sure.length = s.sure.length := by show (s.read.set n _).length = _; rw [List.length_set, s.read_length]
  refine ⟨by rw [e]; exact h.pos, by rw [e]; exact h.le, fun x hx => ?_, (fun x hx => by cases hx), h.lo, h.hi⟩
  rcases List.mem_or_eq_of_mem_set hx with h1 | h1
  · exact h.read x h1
  · rw [h1]
    refine turnAt_sec ?_ hy
    have hl : n < s.read.length := by rw [s.read_length]; exact hn
    rw [List.getD_eq_getElem?_getD, List.getElem?_eq_getElem hl]
    exact h.read _ (List.getElem_mem hl)

theorem chunk_set1 {α : Type} {m : Nat} {L : List (List α)} (h : ∀ s ∈ L, s.length = m) {k j : Nat} {s : List α} (z : α) (hk : L[k]? = some s) (hj : j < m) : L.flatten.set (k * m + j) z = (L.set k (s.set j z)).flatten := by
  induction L generalizing k with
  | nil => simp at hk
  | cons t L ih =>
    have ht : t.length = m := h t (by simp)
    cases k with
    | zero =>
      simp at hk
      subst hk
      rw [Nat.zero_mul, Nat.zero_add, List.set_cons_zero, List.flatten_cons, List.flatten_cons, List.set_append_left _ _ (by omega)]
    | succ k =>
      have e : (k + 1) * m = m + k * m := by rw [Nat.add_mul]; omega
      rw [List.set_cons_succ, List.flatten_cons, List.flatten_cons, e, List.set_append_right _ _ (by omega), ht, show m + k * m + j - m = k * m + j by omega, ih (fun x hx => h x (by simp [hx])) (by simpa using hk)]

theorem SecAt.setByte {w : World} {g c : Nat} {R : List (List Nat)} (h : SecAt w g c R) (hs : ∀ x ∈ R, Sec x) {n k : Nat} {xs : List Nat} (hx : R[n]? = some xs) (hk : k < 64) (z : Nat) :
    SecAt (w.setCell ⟨g, n * 64 + k, none⟩ (.int .u8 (z : Int))) g c (R.set n (xs.set k z)) := by
  have e := chunk_set1 (secs_len hs) (bv z) (secs_get hx) hk
  have e2 : (bvs xs).set k (bv z) = bvs (xs.set k z) := by unfold bvs; rw [List.map_set]
  rw [e2, secs_set] at e
  have hl := h.1
  rcases h.2 with ⟨e1, _⟩ | ⟨g', cap, cur, e1, hb, hg, hc, hm, hsz, ht⟩
  · cases e1
  · cases e1
    unfold SecAt
    rw [List.length_set]
    refine ⟨by rw [← e, List.length_set]; exact hl, .inr ⟨_, c, cur.setIfInBounds (n * 64 + k) (bv z), rfl, hb, heap_setCell_same w _ _ _ _ (bv z) hg, hc, hm, by rw [Array.size_setIfInBounds]; exact hsz, ?_⟩⟩
    rw [Array.toList_setIfInBounds, List.take_set, ht]
    exact e

theorem SecAt.cell {w : World} {g c : Nat} {R : List (List Nat)} (h : SecAt w g c R) (hs : ∀ x ∈ R, Sec x) {n k : Nat} {xs : List Nat} (hx : R[n]? = some xs) (hk : k < 64) : w.cell? ⟨g, n * 64 + k, none⟩ = some (.int .u8 ((xs.getD k 0 : Nat) : Int)) := by
  have hl := (hs xs (List.mem_of_getElem? hx)).1
  refine h.range hs hx k _ ?_
  rw [bvs_get, List.getD_eq_getElem?_getD, List.getElem?_eq_getElem (by omega)]
  rfl
theorem SecAt.free {w : World} {g c : Nat} {R : List (List Nat)} (h : SecAt w g c R) (i : Nat) : w.frozen? ⟨g, i, none⟩ = false := by
  obtain ⟨cur, hc⟩ := h.type
  exact frozen_of_row w g i _ _ hc

set_option maxRecDepth 100000 in
set_option maxHeartbeats 1000000 in
theorem turn_any {w : World} {g : Nat} {F : Nat → Prop} {s : St} {n k y : Nat} (hn : n < s.sure.length) (hk : k < 64) (hy : y < 256) (hl : s.blown = false) (h : Disk w g F s) :
    Calls Tryd.prog 20 #[.pointer (some ⟨g, 0, none⟩), .int .i64 (n : Int), .int .i64 (k : Int), .int .u8 (y : Int)] w fun e w' => e = .returned (.int .i64 0) ∧ Acted w g F (s.turned n k y) w' := by
  have hd := isThere_yes h
  have hh := has_any (n : Int) h
  have e1 : decide ((0 : Int) ≤ (n : Int) ∧ (n : Int) < (s.sure.length : Int)) = true := by simp; omega
  rw [e1] at hh
  obtain ⟨ok, ⟨a, b, ca, cb, v, h, hf⟩, hF⟩ := h
  have C := settle_at ok h
  have c4 := h.c4
  rw [hl] at c4
  have H0 := Lib.hid (And.intro ok (And.intro h (And.intro hf (And.intro hF hl))))
  have k1 : decide ((k : Int) < 0) = false := by simp
  have k2 : decide (64 ≤ (k : Int)) = false := by simp; omega
  have k3 : (k : Int) < 64 := by omega
  clear ok h hf hF hl e1
  go_enter Tryd.func20, Tryd.ntmps20
  go_wp2_with fail
  refine hd.mono ?_
  rintro e w1 ⟨rfl, rfl⟩
  go_wp2_with fail
  refine hh.mono ?_
  rintro e w1 ⟨rfl, rfl⟩
  go_wp2_with fail
  refine C.mono ?_
  rintro e w1 ⟨rfl, h1, hb1⟩
  clear C c4 hd hh
  obtain ⟨xs, hxs⟩ : ∃ xs, s.read[n]? = some xs := ⟨_, List.getElem?_eq_getElem (by rw [s.read_length]; exact hn)⟩
  have hxd : s.read.getD n [] = xs := by rw [List.getD_eq_getElem?_getD, hxs]; rfl
  have hsx := H0.out.1.read xs (List.mem_of_getElem? hxs)
  have c1 := h1.c1
  rw [show s.settled.sure.length = s.sure.length from s.read_length] at c1
  have hrd1 : SecAt w1 b cb s.read := h1.rd
  have hsu1 : SecAt w1 a ca s.read := h1.sure
  have cx := hrd1.cell H0.out.1.read hxs hk
  have fx := hrd1.free (n * 64 + k)
  obtain ⟨x, hx⟩ : ∃ x, xs.getD k 0 = x := ⟨_, rfl⟩
  rw [hx] at cx
  have hxb : x < 256 := by
    rw [← hx, List.getD_eq_getElem?_getD, List.getElem?_eq_getElem (by rw [hsx.1]; exact hk)]
    exact hsx.2 _ (List.getElem_mem _)
  have q1 := u8_xor_nat x y hxb hy
  have hni : (n : Int) < (s.sure.length : Int) := by omega
  have H1 := Lib.hid (And.intro h1 (And.intro hb1 (And.intro hrd1 (And.intro hsu1 (And.intro hxs (And.intro hxd (And.intro hsx hx)))))))
  clear h1 hb1 hrd1 hsu1 hxs hxd hsx hx hxb
  go_wp2
  go_still_tail 13, (by kernel_rfl)
  have hW := (H1.out.2.2.1.block (w' := w1.drew) rfl).setByte H0.out.1.read H1.out.2.2.2.2.1 hk (x ^^^ y)
  have hG := setCell_grown w1.drew b (n * 64 + k) (.int .u8 ((x ^^^ y : Nat) : Int))
  have D1 := H1.out.1
  have gl := D1.lt
  obtain ⟨W2, hW2⟩ : ∃ W2, w1.drew.setCell ⟨b, n * 64 + k, none⟩ (.int .u8 ((x ^^^ y : Nat) : Int)) = W2 := ⟨_, rfl⟩
  rw [hW2] at hW hG
  have hxk : xs.set k (x ^^^ y) = turnAt xs k y := by rw [turnAt, H1.out.2.2.2.2.2.2.2]
  rw [hxk] at hW
  have hsz2 : W2.heap.size = w1.heap.size := by rw [← hW2]; simp [World.setCell]
  have hg2 : W2.heap[g]? = w1.heap[g]? := hG.block g gl (fun e => D1.gb (by injection e))
  have ha2 : W2.heap[a]? = w1.heap[a]? := hG.block a D1.sure.lt (fun e => D1.ne (by injection e))
  have c0 : W2.cell? ⟨g, 0, none⟩ = some (.slice (some ⟨a, 0, none⟩) s.sure.length ca) := by
    have := D1.c0
    rw [show s.settled.sure.length = s.sure.length from s.read_length] at this
    exact (World.cell?_of_block hg2).trans this
  have c1' : W2.cell? ⟨g, 1, none⟩ = some (.slice (some ⟨b, 0, none⟩) s.sure.length cb) := (World.cell?_of_block hg2).trans c1
  have hs2 : ∀ z ∈ s.read.set n (turnAt xs k y), Sec z := fun z hz => by
    rcases List.mem_or_eq_of_mem_set hz with h1 | h1
    · exact H0.out.1.read z h1
    · rw [h1]; exact turnAt_sec H1.out.2.2.2.2.2.2.1 hy
  have hget : (s.read.set n (turnAt xs k y))[n]? = some (turnAt xs k y) := by rw [List.getElem?_set_self (by rw [s.read_length]; exact hn)]
  have rb := hW.range hs2 hget
  have tl : (turnAt xs k y).length = 64 := by rw [turnAt_length]; exact H1.out.2.2.2.2.2.2.1.1
  have hsa2 : SecAt W2 a ca s.read := H1.out.2.2.2.1.block ha2
  have ta := hsa2.there (k := n) (by rw [s.read_length]; exact hn)
  have HA := Lib.hid (And.intro hW (And.intro hG (And.intro hsz2 (And.intro hg2 (And.intro hs2 (And.intro rb (And.intro tl (And.intro hsa2 ta))))))))
  clear hW hG hsz2 hg2 ha2 hs2 hget rb tl hsa2 ta hxk D1 gl
  change wpList _ _ _ _ _ w1.drew
  go_wp2
  clear hW2 c1 fx cx q1
  refine wp_region_still_tail 13 (by kernel_rfl) (by kernel_rfl) ?_
  simp only [List.take_succ_cons, List.take_zero, List.drop_succ_cons, List.drop_zero]
  iterate 11 still_step
  refine wpStill_step (fun K hK => ?_)
  refine still_load_mid rfl 68 (.tmp 56) rfl b (n * 64) rfl (bvs (turnAt xs k y)) _ (fun j u hu => HA.out.2.2.2.2.2.1 j u hu) Tryd.underlying68 rfl (by rw [bvs_length, HA.out.2.2.2.2.2.2.1]; exact sizeSector) (hK _ ?_)
  clear hK K
  still_step
  refine wpStill_nil ?_
  change wpList _ _ _ _ _ W2.drew
  refine wpList_store_mid rfl 68 (.tmp 58) (.tmp 57) rfl a (n * 64) (bvs (turnAt xs k y)).toArray rfl rfl (by rw [List.size_toArray, bvs_length, HA.out.2.2.2.2.2.2.1]; exact HA.out.2.2.2.2.2.2.2.2) (by rw [List.size_toArray, bvs_length, HA.out.2.2.2.2.2.2.1]; exact sizeSector) (all_oneCell_toArray (bvs_oneCell _)) ?_
  change wpList _ _ _ _ _ (W2.drew.setCells a (n * 64) (bvs (turnAt xs k y)))
  have hA3 := SecAt.set (w := W2.drew) (HA.out.2.2.2.2.2.2.2.1.block rfl) H0.out.1.read (k := n) (by rw [s.read_length]; exact hn) HA.out.2.2.2.2.2.2.1
  have hG3 := setCells_grown a (bvs (turnAt xs k y)) W2.drew (n * 64)
  obtain ⟨W3, hW3⟩ : ∃ W3, W2.drew.setCells a (n * 64) (bvs (turnAt xs k y)) = W3 := ⟨_, rfl⟩
  rw [hW3] at hA3 hG3 ⊢
  have HB := Lib.hid (And.intro hA3 hG3)
  clear hA3 hG3 hW3 c0 c1'
  go_wp2
  go_ret
  obtain ⟨ok, h, hf, hF, hl⟩ := H0.out
  obtain ⟨D1, hb1, _, _, hxs, hxd, hsx, hx⟩ := H1.out
  obtain ⟨hW, hG, hsz2, hg2, hs2, rb, tl, hsa2, ta⟩ := HA.out
  obtain ⟨hA3, hG3⟩ := HB.out
  have es : s.turned n k y = ⟨s.read.set n (turnAt xs k y), [], s.lets, s.blown⟩ := by unfold St.turned; rw [hxd]
  refine ⟨rfl, F, ⟨ok.turned hn hy, ⟨a, b, ca, cb, .slice none 0 0, ?_, fun z hz => ?_⟩, fun z hz => ?_⟩, ?_, fun z hz => .inl hz⟩
  · rw [es]
    refine ⟨?_, hA3, ?_, ⟨rfl, .inl ⟨rfl, rfl⟩⟩, h.ne⟩
    · have e1 : W3.heap[g]? = W2.heap[g]? := hG3.block g (by show g < W2.heap.size; rw [hsz2]; exact D1.lt) (fun e => D1.ga (by injection e))
      have := e1.trans (hg2.trans D1.head)
      rw [show (List.set s.read n (turnAt xs k y)).length = s.settled.sure.length from List.length_set]
      exact this
    · refine hW.block (hG3.block b (by show b < W2.heap.size; rw [hsz2]; exact D1.rd.lt) (fun e => D1.ne (by injection e with e; exact e.symm)))
  · rcases hz with hz | hz | hz | hz
    · exact hf z (.inl hz)
    · exact hf z (.inr (.inl hz))
    · exact hf z (.inr (.inr (.inl hz)))
    · cases hz
  · have h1 := hF z hz
    have h2 := hb1.size
    have h3 := hG3.size
    have h4 : W2.drew.heap.size = W2.heap.size := rfl
    omega
  · have b1 : But F w w1 := hb1.mono (fun z _ hz => by
      rcases hz with rfl | rfl
      · exact hf _ (.inl rfl)
      · exact hf _ (.inr (.inl rfl)))
    have b2 : But F w W2 := b1.drew.grown hG (fun z e _ => by injection e with e; rw [← e]; exact hf _ (.inr (.inr (.inl rfl))))
    exact b2.drew.grown hG3 (fun z e _ => by injection e with e; rw [← e]; exact hf _ (.inr (.inl rfl)))

set_option maxRecDepth 100000 in
set_option maxHeartbeats 1000000 in
theorem turn_blown {w : World} {g : Nat} {F : Nat → Prop} {s : St} {n k y : Nat} (hn : n < s.sure.length) (hk : k < 64) (hl : s.blown = true) (h : Disk w g F s) :
    Calls Tryd.prog 20 #[.pointer (some ⟨g, 0, none⟩), .int .i64 (n : Int), .int .i64 (k : Int), .int .u8 (y : Int)] w fun e w' => e = .returned (.int .i64 9) ∧ w = w' := by
  have hd := isThere_yes h
  have hh := has_any (n : Int) h
  have e1 : decide ((0 : Int) ≤ (n : Int) ∧ (n : Int) < (s.sure.length : Int)) = true := by simp; omega
  rw [e1] at hh
  obtain ⟨ok, ⟨a, b, ca, cb, v, h, hf⟩, hF⟩ := h
  have c4 := h.c4
  rw [hl] at c4
  have k1 : decide ((k : Int) < 0) = false := by simp
  have k2 : decide (64 ≤ (k : Int)) = false := by simp; omega
  have k3 : (k : Int) < 64 := by omega
  clear ok h hf hF hl e1
  go_enter Tryd.func20, Tryd.ntmps20
  go_wp2_with fail
  refine hd.mono ?_
  rintro e w1 ⟨rfl, rfl⟩
  go_wp2_with fail
  refine hh.mono ?_
  rintro e w1 ⟨rfl, rfl⟩
  go_wp2
  go_ret
  exact ⟨rfl, rfl⟩

end Go.Proofs.YtcdlocbonjgcgaaDoor
