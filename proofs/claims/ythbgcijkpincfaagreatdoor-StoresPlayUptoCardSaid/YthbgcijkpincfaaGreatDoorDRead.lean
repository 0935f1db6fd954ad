/-
  disks: Read, Waits, Len, Fuse.
-/
import Derived.Test.YthbgcijkpincfaaGreatDoorDNew
namespace Go.Proofs.YthbgcijkpincfaaGreatDoor
open Go.RowKit

set_option maxRecDepth 100000 in
set_option maxHeartbeats 1000000 in
theorem waits_any {w : World} {g : Nat} {F : Nat → Prop} {s : St} (h : Disk w g F s) :
    Calls Tryz.prog 97 #[.pointer (some ⟨g, 0, none⟩)] w fun e w' => e = .returned (.int .i64 (s.waits.length : Int)) ∧ w = w' := by
  have hd := isThere_yes h
  obtain ⟨ok, ⟨a, b, ca, cb, v, h, hf⟩, hl⟩ := h
  have c2 := h.c2
  have hv : v = .slice none 0 0 ∧ s.waits.length = 0 ∨ ∃ A c, v = .slice A s.waits.length c := by
    rcases h.row.2 with h0 | ⟨g', cap, cur, e1, _⟩
    · exact .inl h0
    · exact .inr ⟨_, _, e1⟩
  obtain ⟨A, c, rfl⟩ : ∃ A c, v = .slice A s.waits.length c := by
    rcases hv with ⟨rfl, h0⟩ | h1
    · exact ⟨none, 0, by rw [h0]⟩
    · exact h1
  clear h hf hl ok hv
  go_enter Tryz.func97, Tryz.ntmps97
  go_wp2_with fail
  refine hd.mono ?_
  rintro e w1 ⟨rfl, rfl⟩
  go_wp2
  go_ret
  exact ⟨rfl, rfl⟩

set_option maxRecDepth 100000 in
set_option maxHeartbeats 1000000 in
theorem len_any {w : World} {g : Nat} {F : Nat → Prop} {s : St} (h : Disk w g F s) :
    Calls Tryz.prog 69 #[.pointer (some ⟨g, 0, none⟩)] w fun e w' => e = .returned (.int .i64 (s.sure.length : Int)) ∧ w = w' := by
  have hd := isThere_yes h
  obtain ⟨ok, ⟨a, b, ca, cb, v, h, hf⟩, hl⟩ := h
  have c0 := h.c0
  clear h hf hl ok
  go_enter Tryz.func69, Tryz.ntmps69
  go_wp2_with fail
  refine hd.mono ?_
  rintro e w1 ⟨rfl, rfl⟩
  go_wp2
  go_ret
  exact ⟨rfl, rfl⟩

theorem acted_head {w w' : World} {g a b ca cb : Nat} {v : Value} {F : Nat → Prop} {s' : St} (ok : s'.Ok) (h : DiskAt w' g a b ca cb v s') (hf : ∀ x, Foot g a b v x → F x) (hl : ∀ x, F x → x < w.heap.size) (hg : w.grownBy w' (some g)) : Acted w g F s' w' :=
  ⟨F, ⟨ok, ⟨a, b, ca, cb, v, h, hf⟩, fun x hx => Nat.lt_of_lt_of_le (hl x hx) hg.size⟩, (But.refl F w).grown hg (fun k e _ => by cases e; exact hf _ (.inl rfl)), fun x hx => .inl hx⟩

/-- What a fuse of z lets be. -/
def letsOf (z : Int) : Int := if z < 0 then -1 else z

set_option maxRecDepth 100000 in
set_option maxHeartbeats 1000000 in
theorem fuse_any {w : World} {g : Nat} {F : Nat → Prop} {s : St} (z : Int) (hz : z ≤ 9223372036854775807) (h : Disk w g F s) :
    Calls Tryz.prog 14 #[.pointer (some ⟨g, 0, none⟩), .int .i64 z] w fun e w' => e = .returned (.int .i64 0) ∧ Acted w g F { s with lets := letsOf z, blown := false } w' := by
  have hd := isThere_yes h
  obtain ⟨ok, ⟨a, b, ca, cb, v, h, hf⟩, hl⟩ := h
  have c3 := h.c3
  have c4 := h.c4
  have f3 := h.fz 3
  have f4 := h.fz 4
  have ok' : St.Ok { s with lets := letsOf z, blown := false } := ⟨ok.pos, ok.le, ok.sec, ok.wsec, by show -1 ≤ letsOf z; unfold letsOf; split <;> omega, by show letsOf z ≤ _; unfold letsOf; split <;> omega⟩
  have hD := (h.setLets (letsOf z)).setBlown false
  have hG : w.grownBy ((w.setCell ⟨g, 3, none⟩ (.int .i64 (letsOf z))).setCell ⟨g, 4, none⟩ (.bool false)) (some g) := by
    have h1 := setCell_grown w g 3 (.int .i64 (letsOf z))
    have h2 := setCell_grown (w.setCell ⟨g, 3, none⟩ (.int .i64 (letsOf z))) g 4 (.bool false)
    exact ⟨rfl, rfl, rfl, Nat.le_trans h1.size h2.size, fun k hk hne => (h2.block k (Nat.lt_of_lt_of_le hk h1.size) hne).trans (h1.block k hk hne)⟩
  have HF := Lib.hid (acted_head ok' hD hf hl hG)
  by_cases h0 : z < -1
  · have e : letsOf z = -1 := by unfold letsOf; rw [if_pos (by omega)]
    rw [e] at HF ⊢
    clear h hf hl ok ok' hD hG e
    go_enter Tryz.func14, Tryz.ntmps14
    go_wp2_with fail
    refine hd.mono ?_
    rintro e w1 ⟨rfl, rfl⟩
    go_wp2
    go_ret
    exact ⟨rfl, HF.out⟩
  · have e : letsOf z = z := by unfold letsOf; split <;> omega
    rw [e] at HF ⊢
    clear h hf hl ok ok' hD hG e
    go_enter Tryz.func14, Tryz.ntmps14
    go_wp2_with fail
    refine hd.mono ?_
    rintro e w1 ⟨rfl, rfl⟩
    go_wp2
    go_ret
    exact ⟨rfl, HF.out⟩

/-- A whole value into the block that was made last. -/
theorem wpList_store_fresh {ops : Array Oper} {rest : List Oper} {o : Oper} {a : Act} {Q : Exit → Act → World → Prop} (hgd : o.guard = none) (w : World) (t : TypeId) (c c' : Array Value) (x y : Operand) (ho : o.op = .store t x y)
    (hx : a.eval x = .pointer (some ⟨w.heap.size, 0, none⟩)) (hy : a.eval y = .agg c') (hi : (Tryz.prog.info? t).map (·.size) = some c'.size) (hs : c.size = c'.size) (h1 : c'.all (·.oneCell') = true)
    (h : wpList Tryz.prog ops Q rest (a.put o.dst undef) (w.alloc (.cells c' t))) : wpList Tryz.prog ops Q (o :: rest) a (w.alloc (.cells c t)) := by
  refine wpList_plain hgd fun K hK => ?_
  unfold Oper.wp execOp
  simp only [ho, hx, hy, run_storeAt_new w t c c' hi hs h1, Sem.run_bind, Sem.run_pure, Result.andThen_ok]
  exact hK _ _ h

theorem BArr.range {w : World} {g : Nat} {T : TypeId} {xs : List Nat} (h : BArr w g T xs) : w.rangeAt g 0 (bvs xs) := fun j v hv => by
  rw [Nat.zero_add, cell_of_row _ g j _ T (0, 0) h, List.getElem?_toArray, hv]
theorem BArr.there {w : World} {g : Nat} {T : TypeId} {xs : List Nat} (h : BArr w g T xs) : w.there g 0 xs.length := fun j hj => by
  refine ⟨?_, h.free _⟩
  rw [Nat.zero_add, cell_of_row _ g j _ T (0, 0) h, List.getElem?_toArray, List.getElem?_eq_getElem (by rw [bvs_length]; exact hj)]
  rfl

/-- Bytes of a sector, in memory of their own. -/
def Told (w : World) (xs : List Nat) (e : Ending) (w' : World) : Prop := e = .returned (.tuple #[.slice (some ⟨w.heap.size, 0, none⟩) 64 64, .int .i64 0]) ∧ BArr w' w.heap.size 137 xs ∧ Below w.heap.size w w'

set_option maxRecDepth 100000 in
set_option maxHeartbeats 1000000 in
theorem read_any {w : World} {g : Nat} {F : Nat → Prop} {s : St} {k : Nat} {xs : List Nat} (hx : s.read[k]? = some xs) (h : Disk w g F s) :
    Calls Tryz.prog 95 #[.pointer (some ⟨g, 0, none⟩), .int .i64 (k : Int)] w (Told w xs) := by
  have hd := isThere_yes h
  have hh := has_any (k : Int) h
  have hk : k < s.sure.length := by have := (List.getElem?_eq_some_iff.1 hx).1; rwa [s.read_length] at this
  have e1 : decide ((0 : Int) ≤ (k : Int) ∧ (k : Int) < (s.sure.length : Int)) = true := by simp; omega
  rw [e1] at hh
  obtain ⟨ok, ⟨a, b, ca, cb, v, h, hf⟩, hl⟩ := h
  have c1 := h.c1
  have hx1 := (ok.read xs (List.mem_of_getElem? hx)).1
  have hr := h.rd.range ok.read hx
  have hki : (k : Int) < (s.sure.length : Int) := by omega
  have HR := Lib.hid hr
  have HX := Lib.hid hx1
  clear h hf hl ok hx e1 hr hx1
  go_enter Tryz.func95, Tryz.ntmps95
  go_wp2_with fail
  refine hd.mono ?_
  rintro e w1 ⟨rfl, rfl⟩
  go_wp2_with fail
  refine hh.mono ?_
  rintro e w1 ⟨rfl, rfl⟩
  have hsz : (Tryz.prog.info? 137).map (·.size) = some (bvs xs).toArray.size := by rw [List.size_toArray, bvs_length, HX.out]; exact sizeSector
  have hs64 : ∀ c : Array Value, c.size = 64 → c.size = (bvs xs).toArray.size := fun c hc => by rw [hc, List.size_toArray, bvs_length, HX.out]
  have HS := Lib.hid (And.intro hsz hs64)
  clear hsz hs64
  go_wp2_with (first
    | (with_reducible refine wpList_load_mid rfl 137 _ rfl b (k * 64) rfl (bvs xs) _ HR.out Tryz.underlying137 rfl (by rw [bvs_length, HX.out]; exact sizeSector) ?_)
    | (with_reducible refine wpList_store_fresh rfl w 137 _ (bvs xs).toArray _ _ rfl rfl rfl HS.out.1 (HS.out.2 _ rfl) (all_oneCell_toArray (bvs_oneCell xs)) ?_))
  go_ret2
  exact ⟨rfl, BArr.new w _ xs, below_alloc w _⟩

set_option maxRecDepth 100000 in
set_option maxHeartbeats 1000000 in
theorem read_bad {w : World} {g : Nat} {F : Nat → Prop} {s : St} (z : Int) (hz : ¬ (0 ≤ z ∧ z < (s.sure.length : Int))) (h : Disk w g F s) :
    Calls Tryz.prog 95 #[.pointer (some ⟨g, 0, none⟩), .int .i64 z] w fun e w' => e = .returned (.tuple #[.slice none 0 0, .int .i64 1]) ∧ w = w' := by
  have hd := isThere_yes h
  have hh := has_any z h
  rw [show decide (0 ≤ z ∧ z < (s.sure.length : Int)) = false by simpa using hz] at hh
  clear h hz
  go_enter Tryz.func95, Tryz.ntmps95
  go_wp2_with fail
  refine hd.mono ?_
  rintro e w1 ⟨rfl, rfl⟩
  go_wp2_with fail
  refine hh.mono ?_
  rintro e w1 ⟨rfl, rfl⟩
  go_wp2
  go_ret2
  exact ⟨rfl, rfl⟩

end Go.Proofs.YthbgcijkpincfaaGreatDoor
