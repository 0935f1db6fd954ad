/-
  A disk: what it is, and where it lies.
-/
import Derived.Test.YthbgcijkpincfaaGreatDoorDNull
import Derived.Test.YthbgcijkpincfaaGreatDoorDChunk
namespace Go.Proofs.YthbgcijkpincfaaGreatDoor
open Go.RowKit

/-- Bytes, with noughts behind them, as many as make a sector. -/
def pad (xs : List Nat) : List Nat := xs ++ List.replicate (64 - xs.length) 0
theorem pad_length {xs : List Nat} (h : xs.length ≤ 64) : (pad xs).length = 64 := by rw [pad, List.length_append, List.length_replicate]; omega
theorem pad_lt {xs : List Nat} (h : ∀ x ∈ xs, x < 256) : ∀ x ∈ pad xs, x < 256 := by
  intro x hx
  rcases List.mem_append.1 hx with h1 | h1
  · exact h x h1
  · rw [List.eq_of_mem_replicate h1]; omega

/-- Sectors, and writes that go to them, one behind the other. -/
def settle (R : List (List Nat)) (ws : List (Nat × List Nat)) : List (List Nat) := ws.foldl (fun r x => r.set x.1 x.2) R
theorem settle_nil (R : List (List Nat)) : settle R [] = R := rfl
theorem settle_snoc (R : List (List Nat)) (ws : List (Nat × List Nat)) (x : Nat × List Nat) : settle R (ws ++ [x]) = (settle R ws).set x.1 x.2 := by simp [settle, List.foldl_append]
theorem settle_append (R : List (List Nat)) (ws vs : List (Nat × List Nat)) : settle R (ws ++ vs) = settle (settle R ws) vs := by simp [settle, List.foldl_append]
theorem settle_length (R : List (List Nat)) (ws : List (Nat × List Nat)) : (settle R ws).length = R.length := by
  induction ws generalizing R with
  | nil => rfl
  | cons x ws ih => show (settle (R.set x.1 x.2) ws).length = _; rw [ih, List.length_set]

/-- What is known of a disk. -/
structure St where
  sure : List (List Nat)
  waits : List (Nat × List Nat)
  lets : Int
  blown : Bool

/-- What is read of it. -/
def St.read (s : St) : List (List Nat) := settle s.sure s.waits

/-- A sector's bytes. -/
def Sec (s : List Nat) : Prop := s.length = 64 ∧ ∀ x ∈ s, x < 256

structure St.Ok (s : St) : Prop where
  pos : 0 < s.sure.length
  le : s.sure.length ≤ 4096
  sec : ∀ x ∈ s.sure, Sec x
  wsec : ∀ x ∈ s.waits, x.1 < s.sure.length ∧ Sec x.2
  lo : -1 ≤ s.lets
  hi : s.lets ≤ 9223372036854775807

theorem settle_sec {R : List (List Nat)} {ws : List (Nat × List Nat)} (h : ∀ x ∈ R, Sec x) (hw : ∀ x ∈ ws, Sec x.2) : ∀ x ∈ settle R ws, Sec x := by
  induction ws generalizing R with
  | nil => exact h
  | cons y ws ih =>
    refine ih (R := R.set y.1 y.2) (fun x hx => ?_) (fun x hx => hw x (by simp [hx]))
    rcases List.mem_or_eq_of_mem_set hx with h1 | h1
    · exact h x h1
    · rw [h1]; exact hw y (by simp)
theorem St.Ok.read {s : St} (h : s.Ok) : ∀ x ∈ s.read, Sec x := settle_sec h.sec (fun x hx => (h.wsec x hx).2)
theorem St.read_length (s : St) : s.read.length = s.sure.length := settle_length _ _

/-- Sectors as cells; writes as cells. -/
def dsecs (R : List (List Nat)) : List (List Value) := R.map bvs
def wcell (x : Nat × List Nat) : List Value := .int .i64 (x.1 : Int) :: bvs x.2
def wcells (ws : List (Nat × List Nat)) : List (List Value) := ws.map wcell
theorem secs_len {R : List (List Nat)} (h : ∀ x ∈ R, Sec x) : ∀ s ∈ dsecs R, s.length = 64 := by
  intro s hs
  obtain ⟨x, hx, rfl⟩ := List.mem_map.1 hs
  rw [bvs_length]; exact (h x hx).1
theorem wcells_len {ws : List (Nat × List Nat)} (h : ∀ x ∈ ws, Sec x.2) : ∀ s ∈ wcells ws, s.length = 65 := by
  intro s hs
  obtain ⟨x, hx, rfl⟩ := List.mem_map.1 hs
  rw [wcell, List.length_cons, bvs_length, (h x hx).1]
theorem wcell_one (x : Nat × List Nat) : ∀ u ∈ wcell x, u.oneCell' = true := by
  intro u hu
  rcases List.mem_cons.1 hu with rfl | h
  · rfl
  · exact bvs_oneCell _ u h
theorem secs_get {R : List (List Nat)} {k : Nat} {s : List Nat} (h : R[k]? = some s) : (dsecs R)[k]? = some (bvs s) := by rw [dsecs, List.getElem?_map, h]; rfl
theorem wcells_get {ws : List (Nat × List Nat)} {k : Nat} {x : Nat × List Nat} (h : ws[k]? = some x) : (wcells ws)[k]? = some (wcell x) := by rw [wcells, List.getElem?_map, h]; rfl
theorem secs_set (R : List (List Nat)) (k : Nat) (z : List Nat) : (dsecs R).set k (bvs z) = dsecs (R.set k z) := by rw [dsecs, dsecs, List.map_set]

/-- Sectors R lie in block g. -/
def SecAt (w : World) (g c : Nat) (R : List (List Nat)) : Prop := w.ownsRow 0 137 64 (.slice (some ⟨g, 0, none⟩) R.length c) R.length (dsecs R).flatten

section
variable {w w' : World} {g c : Nat} {R : List (List Nat)}
theorem SecAt.range (h : SecAt w g c R) (hs : ∀ x ∈ R, Sec x) {k : Nat} {s : List Nat} (hk : R[k]? = some s) : w.rangeAt g (k * 64) (bvs s) :=
  own_range h (secs_len hs) (by rw [dsecs, List.length_map]) (secs_get hk)
theorem SecAt.there (h : SecAt w g c R) {k : Nat} (hk : k < R.length) : w.there g (k * 64) 64 := own_there h hk
theorem SecAt.set (h : SecAt w g c R) (hs : ∀ x ∈ R, Sec x) {k : Nat} (hk : k < R.length) {z : List Nat} (hz : z.length = 64) : SecAt (w.setCells g (k * 64) (bvs z)) g c (R.set k z) := by
  have := own_setC h (secs_len hs) (by rw [dsecs, List.length_map]) hk (z := bvs z) (by rw [bvs_length, hz])
  rw [secs_set] at this
  unfold SecAt
  rw [List.length_set]
  exact this
theorem SecAt.block (h : SecAt w g c R) (hb : w'.heap[g]? = w.heap[g]?) : SecAt w' g c R := own_block h (fun b e => by cases e; exact hb)
theorem SecAt.lt (h : SecAt w g c R) : g < w.heap.size := own_lt h rfl
theorem SecAt.type (h : SecAt w g c R) : ∃ cur, w.heap[g]? = some (.cells cur 137 (0, 0)) := own_type h rfl
theorem SecAt.below (h : SecAt w g c R) (hb : Below w.heap.size w w') : SecAt w' g c R := h.block (hb.block g h.lt)
end

/-- Block g is a disk: its sectors that are sure lie in block a, those that are read in block b, its writes that wait are v. -/
structure DiskAt (w : World) (g a b ca cb : Nat) (v : Value) (s : St) : Prop where
  head : w.heap[g]? = some (.cells #[.slice (some ⟨a, 0, none⟩) s.sure.length ca, .slice (some ⟨b, 0, none⟩) s.sure.length cb, v, .int .i64 s.lets, .bool s.blown] 134 (0, 0))
  sure : SecAt w a ca s.sure
  rd : SecAt w b cb s.read
  row : w.ownsRow 0 141 65 v s.waits.length (wcells s.waits).flatten
  ne : a ≠ b

/-- Which blocks are a disk's. -/
def Foot (g a b : Nat) (v : Value) (x : Nat) : Prop := x = g ∨ x = a ∨ x = b ∨ v.ownBlock = some x

/-- Block g is a disk that lies in blocks of F. -/
def Disk (w : World) (g : Nat) (F : Nat → Prop) (s : St) : Prop := s.Ok ∧ (∃ a b ca cb v, DiskAt w g a b ca cb v s ∧ ∀ x, Foot g a b v x → F x) ∧ ∀ x, F x → x < w.heap.size

theorem types_ne1 : 134 ≠ 137 := by decide
theorem types_ne2 : 134 ≠ 141 := by decide
theorem types_ne3 : 137 ≠ 141 := by decide
theorem block_ne {w : World} {a b : Nat} {x y : Array Value} {t u : TypeId} {f f' : Nat × Nat} (ha : w.heap[a]? = some (.cells x t f)) (hb : w.heap[b]? = some (.cells y u f')) (h : t ≠ u) : a ≠ b := by
  rintro rfl
  rw [ha] at hb
  cases hb
  exact h rfl

section
variable {w w' : World} {g a b ca cb : Nat} {v : Value} {s : St}
theorem DiskAt.c0 (h : DiskAt w g a b ca cb v s) : w.cell? ⟨g, 0, none⟩ = some (.slice (some ⟨a, 0, none⟩) s.sure.length ca) := by rw [cell_of_row _ g 0 _ _ (0, 0) h.head]; rfl
theorem DiskAt.c1 (h : DiskAt w g a b ca cb v s) : w.cell? ⟨g, 1, none⟩ = some (.slice (some ⟨b, 0, none⟩) s.sure.length cb) := by rw [cell_of_row _ g 1 _ _ (0, 0) h.head]; rfl
theorem DiskAt.c2 (h : DiskAt w g a b ca cb v s) : w.cell? ⟨g, 2, none⟩ = some v := by rw [cell_of_row _ g 2 _ _ (0, 0) h.head]; rfl
theorem DiskAt.c3 (h : DiskAt w g a b ca cb v s) : w.cell? ⟨g, 3, none⟩ = some (.int .i64 s.lets) := by rw [cell_of_row _ g 3 _ _ (0, 0) h.head]; rfl
theorem DiskAt.c4 (h : DiskAt w g a b ca cb v s) : w.cell? ⟨g, 4, none⟩ = some (.bool s.blown) := by rw [cell_of_row _ g 4 _ _ (0, 0) h.head]; rfl
theorem DiskAt.fz (h : DiskAt w g a b ca cb v s) (i : Nat) : w.frozen? ⟨g, i, none⟩ = false := frozen_of_row _ g i _ _ h.head
theorem DiskAt.lt (h : DiskAt w g a b ca cb v s) : g < w.heap.size := (Array.getElem?_eq_some_iff.1 h.head).1
theorem DiskAt.ga (h : DiskAt w g a b ca cb v s) : g ≠ a := by obtain ⟨cur, hc⟩ := h.sure.type; exact block_ne h.head hc types_ne1
theorem DiskAt.gb (h : DiskAt w g a b ca cb v s) : g ≠ b := by obtain ⟨cur, hc⟩ := h.rd.type; exact block_ne h.head hc types_ne1
theorem DiskAt.gv (h : DiskAt w g a b ca cb v s) {x : Nat} (hx : v.ownBlock = some x) : g ≠ x := by obtain ⟨cur, hc⟩ := own_type h.row hx; exact block_ne h.head hc types_ne2
theorem DiskAt.av (h : DiskAt w g a b ca cb v s) {x : Nat} (hx : v.ownBlock = some x) : a ≠ x := by obtain ⟨cur, hc⟩ := own_type h.row hx; obtain ⟨cur', hc'⟩ := h.sure.type; exact block_ne hc' hc types_ne3
theorem DiskAt.bv (h : DiskAt w g a b ca cb v s) {x : Nat} (hx : v.ownBlock = some x) : b ≠ x := by obtain ⟨cur, hc⟩ := own_type h.row hx; obtain ⟨cur', hc'⟩ := h.rd.type; exact block_ne hc' hc types_ne3
theorem DiskAt.foot (h : DiskAt w g a b ca cb v s) {x : Nat} (hx : Foot g a b v x) : x < w.heap.size := by
  rcases hx with rfl | rfl | rfl | hx
  · exact h.lt
  · exact h.sure.lt
  · exact h.rd.lt
  · exact own_lt h.row hx
theorem DiskAt.blocks (h : DiskAt w g a b ca cb v s) (hb : ∀ x, Foot g a b v x → w'.heap[x]? = w.heap[x]?) : DiskAt w' g a b ca cb v s :=
  ⟨(hb g (.inl rfl)).trans h.head, h.sure.block (hb a (.inr (.inl rfl))), h.rd.block (hb b (.inr (.inr (.inl rfl)))), own_block h.row (fun x hx => hb x (.inr (.inr (.inr hx)))), h.ne⟩
/-- One cell of the head is written. -/
theorem DiskAt.headSet (h : DiskAt w g a b ca cb v s) {w' : World} (hg : w.grownBy w' (some g)) {s' : St} (hs : s'.sure = s.sure) (hw : s'.waits = s.waits)
    (hh : w'.heap[g]? = some (.cells #[.slice (some ⟨a, 0, none⟩) s.sure.length ca, .slice (some ⟨b, 0, none⟩) s.sure.length cb, v, .int .i64 s'.lets, .bool s'.blown] 134 (0, 0))) : DiskAt w' g a b ca cb v s' := by
  have hb : ∀ x, x < w.heap.size → x ≠ g → w'.heap[x]? = w.heap[x]? := fun x hx hne => hg.block x hx (fun e => hne (by injection e))
  refine ⟨by rw [hs]; exact hh, ?_, ?_, ?_, h.ne⟩
  · rw [hs]; exact h.sure.block (hb a h.sure.lt h.ga.symm)
  · have : s'.read = s.read := by rw [St.read, St.read, hs, hw]
    rw [this]; exact h.rd.block (hb b h.rd.lt h.gb.symm)
  · rw [hw]; exact own_block h.row (fun x hx => hb x (own_lt h.row hx) (h.gv hx).symm)
theorem DiskAt.setLets (h : DiskAt w g a b ca cb v s) (z : Int) : DiskAt (w.setCell ⟨g, 3, none⟩ (.int .i64 z)) g a b ca cb v { s with lets := z } :=
  h.headSet (setCell_grown w g 3 _) rfl rfl (heap_setCell_same w g 3 _ _ (.int .i64 z) h.head)
theorem DiskAt.setBlown (h : DiskAt w g a b ca cb v s) (z : Bool) : DiskAt (w.setCell ⟨g, 4, none⟩ (.bool z)) g a b ca cb v { s with blown := z } :=
  h.headSet (setCell_grown w g 4 _) rfl rfl (heap_setCell_same w g 4 _ _ (.bool z) h.head)
end

section
variable {w w' : World} {g : Nat} {F : Nat → Prop} {s : St}
theorem Disk.lt (h : Disk w g F s) : g < w.heap.size := by obtain ⟨_, ⟨a, b, ca, cb, v, h, _⟩, _⟩ := h; exact h.lt
theorem Disk.mem (h : Disk w g F s) : F g := by obtain ⟨_, ⟨a, b, ca, cb, v, h, hf⟩, _⟩ := h; exact hf g (.inl rfl)
/-- What leaves the blocks of a disk alone leaves the disk. -/
theorem Disk.but {S : Nat → Prop} (h : Disk w g F s) (hb : But S w w') (hd : ∀ x, F x → ¬ S x) : Disk w' g F s := by
  obtain ⟨ok, ⟨a, b, ca, cb, v, h, hf⟩, hl⟩ := h
  refine ⟨ok, ⟨a, b, ca, cb, v, h.blocks (fun x hx => hb.block x (hl x (hf x hx)) (hd x (hf x hx))), hf⟩, fun x hx => Nat.lt_of_lt_of_le (hl x hx) hb.size⟩
theorem Disk.below (h : Disk w g F s) (hb : Below w.heap.size w w') : Disk w' g F s := h.but (S := fun _ => False) (But.of_below hb) (fun _ _ hf => hf)
theorem Disk.more {F' : Nat → Prop} (h : Disk w g F s) (hF : ∀ x, F x → F' x) (hl : ∀ x, F' x → x < w.heap.size) : Disk w g F' s := by
  obtain ⟨ok, ⟨a, b, ca, cb, v, h, hf⟩, _⟩ := h
  exact ⟨ok, ⟨a, b, ca, cb, v, h, fun x hx => hF x (hf x hx)⟩, hl⟩
end

/-- What an act on the disk g in F leaves: it lies in F and in new blocks; nothing else has turned. -/
def Acted (w : World) (g : Nat) (F : Nat → Prop) (s' : St) (w' : World) : Prop := ∃ F', Disk w' g F' s' ∧ But F w w' ∧ ∀ x, F' x → F x ∨ w.heap.size ≤ x

set_option maxRecDepth 100000 in
set_option maxHeartbeats 1000000 in
theorem isThere_yes {w : World} {g : Nat} {F : Nat → Prop} {s : St} (h : Disk w g F s) :
    Calls Tryz.prog 81 #[.pointer (some ⟨g, 0, none⟩)] w fun e w' => e = .returned (.bool true) ∧ w = w' := by
  obtain ⟨ok, ⟨a, b, ca, cb, v, h, hf⟩, hl⟩ := h
  have c0 := h.c0
  have p1 : (0 : Int) < (s.sure.length : Int) := by have := ok.pos; omega
  have p2 := ok.pos
  clear h hf hl ok
  go_enter Tryz.func81, Tryz.ntmps81
  go_wp2
  go_ret
  exact ⟨by simp, rfl⟩

set_option maxRecDepth 100000 in
set_option maxHeartbeats 1000000 in
theorem has_any {w : World} {g : Nat} {F : Nat → Prop} {s : St} (z : Int) (h : Disk w g F s) :
    Calls Tryz.prog 83 #[.pointer (some ⟨g, 0, none⟩), .int .i64 z] w fun e w' => e = .returned (.bool (decide (0 ≤ z ∧ z < (s.sure.length : Int)))) ∧ w = w' := by
  obtain ⟨ok, ⟨a, b, ca, cb, v, h, hf⟩, hl⟩ := h
  have c0 := h.c0
  clear h hf hl
  by_cases h0 : 0 ≤ z
  · by_cases h1 : z < (s.sure.length : Int)
    · have e : decide (0 ≤ z ∧ z < (s.sure.length : Int)) = true := by simp; omega
      rw [e]
      go_enter Tryz.func83, Tryz.ntmps83
      go_wp2
      go_ret
      exact ⟨rfl, rfl⟩
    · have e : decide (0 ≤ z ∧ z < (s.sure.length : Int)) = false := by simp; omega
      rw [e]
      have h1' : decide (z < (s.sure.length : Int)) = false := by simp; omega
      go_enter Tryz.func83, Tryz.ntmps83
      go_wp2
      go_ret
      exact ⟨rfl, rfl⟩
  · have e : decide (0 ≤ z ∧ z < (s.sure.length : Int)) = false := by simp; omega
    rw [e]
    have h0' : decide (z < 0) = true := by simp; omega
    go_enter Tryz.func83, Tryz.ntmps83
    go_wp2
    go_ret
    exact ⟨rfl, rfl⟩

/-- One more call is let be, and counted; or it blows the fuse. -/
def St.burnt (s : St) : St := if s.lets = 0 then { s with blown := true } else if s.lets = -1 then s else { s with lets := s.lets - 1 }

theorem St.burnt_sure (s : St) : s.burnt.sure = s.sure := by unfold St.burnt; split; rfl; split <;> rfl
theorem St.burnt_waits (s : St) : s.burnt.waits = s.waits := by unfold St.burnt; split; rfl; split <;> rfl
theorem St.burnt_read (s : St) : s.burnt.read = s.read := by rw [St.read, St.read, St.burnt_sure, St.burnt_waits]
theorem St.Ok.burnt {s : St} (h : s.Ok) : s.burnt.Ok := by
  refine ⟨by rw [St.burnt_sure]; exact h.pos, by rw [St.burnt_sure]; exact h.le, by rw [St.burnt_sure]; exact h.sec, by rw [St.burnt_sure, St.burnt_waits]; exact h.wsec, ?_, ?_⟩
  · unfold St.burnt; have := h.lo; split; exact h.lo; split; exact h.lo; show -1 ≤ s.lets - 1; omega
  · unfold St.burnt; have := h.hi; split; exact h.hi; split; exact h.hi; show s.lets - 1 ≤ _; omega

set_option maxRecDepth 100000 in
set_option maxHeartbeats 1000000 in
/-- letBe, said of the parts. -/
theorem letBe_at {w : World} {g a b ca cb : Nat} {v : Value} {s : St} (ok : s.Ok) (h : DiskAt w g a b ca cb v s) :
    Calls Tryz.prog 86 #[.pointer (some ⟨g, 0, none⟩)] w fun e w' => e = .returned (.bool (decide (s.lets ≠ 0))) ∧ DiskAt w' g a b ca cb v s.burnt ∧ w.grownBy w' (some g) ∧ w'.heap.size = w.heap.size := by
  have c3 := h.c3
  have c4 := h.c4
  have f3 := h.fz 3
  have f4 := h.fz 4
  have lo := ok.lo
  have hi := ok.hi
  by_cases h0 : s.lets = 0
  · have e : decide (s.lets ≠ 0) = false := by simp [h0]
    have eb : s.burnt = { s with blown := true } := by unfold St.burnt; rw [if_pos h0]
    have HF := Lib.hid (And.intro (h.setBlown true) (And.intro (setCell_grown w g 4 (.bool true)) (show (w.setCell ⟨g, 4, none⟩ (.bool true)).heap.size = w.heap.size by simp [World.setCell])))
    rw [e, eb]
    rw [h0] at c3
    clear h ok lo hi h0 e eb
    go_enter Tryz.func86, Tryz.ntmps86
    go_wp2
    go_ret
    exact ⟨rfl, HF.out⟩
  · have e : decide (s.lets ≠ 0) = true := by simp [h0]
    by_cases h1 : s.lets = -1
    · have eb : s.burnt = s := by unfold St.burnt; rw [if_neg h0, if_pos h1]
      rw [e, eb]
      have HF := Lib.hid h
      rw [h1] at c3
      clear h ok lo hi h0 e eb
      go_enter Tryz.func86, Tryz.ntmps86
      go_wp2
      go_ret
      exact ⟨rfl, HF.out, ⟨rfl, rfl, rfl, Nat.le_refl _, fun _ _ _ => rfl⟩, rfl⟩
    · obtain ⟨z, hz⟩ : ∃ z : Int, s.lets = z := ⟨_, rfl⟩
      have eb : s.burnt = { s with lets := z - 1 } := by unfold St.burnt; rw [if_neg h0, if_neg h1, hz]
      have HF := Lib.hid (And.intro (h.setLets (z - 1)) (And.intro (setCell_grown w g 3 (.int .i64 (z - 1))) (show (w.setCell ⟨g, 3, none⟩ (.int .i64 (z - 1))).heap.size = w.heap.size by simp [World.setCell])))
      rw [e, eb]
      rw [hz] at c3 h0 h1 lo hi
      have q2 : (z == 0) = false := by simp; omega
      have q3 : (z != -1) = true := by simp; omega
      have q4 : 1 ≤ z := by omega
      clear h ok lo h0 h1 e eb hz
      go_enter Tryz.func86, Tryz.ntmps86
      go_wp2
      go_ret
      exact ⟨rfl, HF.out⟩

end Go.Proofs.YthbgcijkpincfaaGreatDoor
