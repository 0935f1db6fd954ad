/-
  Both disks side by side: what each call answers and leaves, whatever it is given.
-/
import Derived.Test.YtcdlocbonjgcgaaDoorPActs
import Derived.Test.YtcdlocbonjgcgaaDoorPTurnNo
import Derived.Test.YtcdlocbonjgcgaaDoorPTurn
import Derived.Test.YtcdlocbonjgcgaaDoorDTurnBad
import Derived.Test.YtcdlocbonjgcgaaDoorQRow
namespace Go.Proofs.YtcdlocbonjgcgaaDoor
open Go.RowKit

/-- Blocks that the two disks may lie in: from base on, and none of O. -/
def Out (base : Nat) (O : Nat → Prop) (x : Nat) : Prop := base ≤ x ∧ ¬ O x
/-- Two disks, apart from one another and from the blocks of O. -/
structure Two (base : Nat) (O : Nat → Prop) (w : World) (gd : Nat) (s : St) (gm : Nat) (r : St) (F G : Nat → Prop) : Prop where
  d : Disk w gd F s
  m : RDisk w gm G r
  apart : ∀ x, F x → ¬ G x
  fo : ∀ x, F x → Out base O x
  go : ∀ x, G x → Out base O x
  ol : ∀ x, O x → x < w.heap.size
  bl : base ≤ w.heap.size
def Pair (base : Nat) (O : Nat → Prop) (w : World) (gd : Nat) (s : St) (gm : Nat) (r : St) : Prop := ∃ F G, Two base O w gd s gm r F G

theorem disk_ok {w : World} {g : Nat} {F : Nat → Prop} {s : St} (h : Disk w g F s) : s.Ok := h.1
theorem disk_lt {w : World} {g : Nat} {F : Nat → Prop} {s : St} (h : Disk w g F s) : ∀ x, F x → x < w.heap.size := h.2.2
theorem acted_refl {w : World} {g : Nat} {F : Nat → Prop} {s : St} (h : Disk w g F s) : Acted w g F s w := ⟨F, h, But.refl _ _, fun _ hx => .inl hx⟩
theorem racted_refl {w : World} {g : Nat} {F : Nat → Prop} {s : St} (h : RDisk w g F s) : RActed w g F s w := ⟨F, h, But.refl _ _, fun _ hx => .inl hx⟩
section
variable {base : Nat} {O : Nat → Prop} {w w' : World} {gd gm : Nat} {s s' r r' : St} {F G : Nat → Prop}
theorem Two.actD (h : Two base O w gd s gm r F G) (ha : Acted w gd F s' w') : Pair base O w' gd s' gm r ∧ But (Out base O) w w' := by
  obtain ⟨F', hd, hb, hf⟩ := ha
  refine ⟨⟨F', G, hd, h.m.but hb (fun x hx hfx => h.apart x hfx hx), fun x hx hg => ?_, fun x hx => ?_, h.go, fun x hx => Nat.lt_of_lt_of_le (h.ol x hx) hb.size, Nat.le_trans h.bl hb.size⟩, hb.mono (fun x _ e => h.fo x e)⟩
  · rcases hf x hx with e | e
    · exact h.apart x e hg
    · have := h.m.2.2.2 x hg; omega
  · rcases hf x hx with e | e
    · exact h.fo x e
    · exact ⟨Nat.le_trans h.bl e, fun ho => by have := h.ol x ho; omega⟩
theorem Two.actM (h : Two base O w gd s gm r F G) (ha : RActed w gm G r' w') : Pair base O w' gd s gm r' ∧ But (Out base O) w w' := by
  obtain ⟨G', hd, hb, hf⟩ := ha
  refine ⟨⟨F, G', h.d.but hb (fun x hx hgx => h.apart x hx hgx), hd, fun x hx hg => ?_, h.fo, fun x hx => ?_, fun x hx => Nat.lt_of_lt_of_le (h.ol x hx) hb.size, Nat.le_trans h.bl hb.size⟩, hb.mono (fun x _ e => h.go x e)⟩
  · rcases hf x hg with e | e
    · exact h.apart x hx e
    · have := disk_lt h.d x hx; omega
  · rcases hf x hx with e | e
    · exact h.go x e
    · exact ⟨Nat.le_trans h.bl e, fun ho => by have := h.ol x ho; omega⟩
/-- What keeps to the blocks of O, or to new ones, leaves both disks be. -/
theorem Pair.keep {S : Nat → Prop} (h : Pair base O w gd s gm r) (hb : But S w w') (hs : ∀ x, S x → x < base ∨ O x) : Pair base O w' gd s gm r := by
  obtain ⟨F, G, h⟩ := h
  refine ⟨F, G, h.d.but hb (fun x hx hsx => ?_), h.m.but hb (fun x hx hsx => ?_), h.apart, h.fo, h.go, fun x hx => Nat.lt_of_lt_of_le (h.ol x hx) hb.size, Nat.le_trans h.bl hb.size⟩
  · rcases hs x hsx with e | e
    · have := (h.fo x hx).1; omega
    · exact (h.fo x hx).2 e
  · rcases hs x hsx with e | e
    · have := (h.go x hx).1; omega
    · exact (h.go x hx).2 e
theorem Pair.below (h : Pair base O w gd s gm r) (hb : Below w.heap.size w w') : Pair base O w' gd s gm r := h.keep (S := fun _ => False) (But.of_below hb) (fun _ e => e.elim)
/-- New blocks are laid to O; or some are no longer of it. -/
theorem Pair.more {O' : Nat → Prop} (h : Pair base O w gd s gm r) (hb : Below w.heap.size w w') (ho : ∀ x, O' x → O x ∨ (w.heap.size ≤ x ∧ x < w'.heap.size)) : Pair base O' w' gd s gm r := by
  obtain ⟨F, G, h⟩ := h
  refine ⟨F, G, h.d.below hb, h.m.below hb, h.apart, fun x hx => ⟨(h.fo x hx).1, fun e => ?_⟩, fun x hx => ⟨(h.go x hx).1, fun e => ?_⟩, fun x hx => ?_, Nat.le_trans h.bl hb.size⟩
  · rcases ho x e with e | e
    · exact (h.fo x hx).2 e
    · have := disk_lt h.d x hx; omega
  · rcases ho x e with e | e
    · exact (h.go x hx).2 e
    · have := h.m.2.2.2 x hx; omega
  · rcases ho x hx with e | e
    · exact Nat.lt_of_lt_of_le (h.ol x e) hb.size
    · exact e.2

theorem Pair.callD {f : FuncId} {args : Array Value} {Q : Ending → Prop} (h : Pair base O w gd s gm r) (hc : ∀ F G, Two base O w gd s gm r F G → Calls Tryd.prog f args w fun e w' => Q e ∧ Acted w gd F s' w') :
    Calls Tryd.prog f args w fun e w' => Q e ∧ Pair base O w' gd s' gm r ∧ But (Out base O) w w' := by
  obtain ⟨F, G, h⟩ := h
  exact (hc F G h).mono fun e w' ⟨hq, ha⟩ => ⟨hq, h.actD ha⟩
theorem Pair.callM {f : FuncId} {args : Array Value} {Q : Ending → Prop} (h : Pair base O w gd s gm r) (hc : ∀ F G, Two base O w gd s gm r F G → Calls Tryd.prog f args w fun e w' => Q e ∧ RActed w gm G r' w') :
    Calls Tryd.prog f args w fun e w' => Q e ∧ Pair base O w' gd s gm r' ∧ But (Out base O) w w' := by
  obtain ⟨F, G, h⟩ := h
  exact (hc F G h).mono fun e w' ⟨hq, ha⟩ => ⟨hq, h.actM ha⟩
end

/-- What is answered, and what is behind it. -/
def St.inn (s : St) (z : Int) : Prop := 0 ≤ z ∧ z < (s.sure.length : Int)
instance (s : St) (z : Int) : Decidable (s.inn z) := by unfold St.inn; exact inferInstance
def St.wcode (s : St) (z : Int) (n : Nat) : Int := if s.inn z ∧ n ≤ 64 then (if s.lets = 0 then 9 else 0) else 1
def St.wnext (s : St) (z : Int) (n : Nat) (xs : List Nat) : St := if s.inn z ∧ n ≤ 64 then (if s.lets = 0 then s.burnt else s.wrote z.toNat xs) else s
def St.scode (s : St) : Int := if s.lets = 0 then 9 else 0
def St.snext (s : St) : St := if s.lets = 0 then s.burnt else s.burnt.settled
def St.tcode (s : St) (z t : Int) : Int := if s.inn z ∧ 0 ≤ t ∧ t < 64 then (if s.blown then 9 else 0) else 1
def St.tnext (s : St) (z t : Int) (y : Nat) : St := if s.inn z ∧ 0 ≤ t ∧ t < 64 then (if s.blown then s else s.turned z.toNat t.toNat y) else s
def St.fnext (s : St) (z : Int) : St := { s with lets := letsOf z, blown := false }
def St.rcode (s : St) (z : Int) : Int := if s.inn z then 0 else 1
def St.rlist (s : St) (z : Int) : List Nat := if s.inn z then s.read.getD z.toNat [] else []

section
variable {base : Nat} {O : Nat → Prop} {w : World} {gd gm : Nat} {s r : St}
theorem play_write {A : Option Addr} {n c : Nat} {xs : List Nat} {z : Int} (h : Pair base O w gd s gm r) (hin : In w A n xs) (hb : ∀ x ∈ xs, x < 256) (hA : 0 < n → ∀ ad, A = some ad → ¬ Out base O ad.block) (hw : s.waits.length ≤ 1000000) :
    Calls Tryd.prog 18 #[.pointer (some ⟨gd, 0, none⟩), .int .i64 z, .slice A n c] w fun e w' => e = .returned (.int .i64 (s.wcode z n)) ∧ Pair base O w' gd (s.wnext z n xs) gm r ∧ But (Out base O) w w' := by
  refine h.callD (Q := fun e => e = .returned (.int .i64 (s.wcode z n))) fun F G h => ?_
  unfold St.wcode St.wnext
  by_cases hc : s.inn z ∧ n ≤ 64
  · rw [if_pos hc, if_pos hc]
    obtain ⟨k, rfl⟩ := Int.eq_ofNat_of_zero_le hc.1.1
    have hk : k < s.sure.length := by have := hc.1.2; omega
    by_cases h0 : s.lets = 0
    · rw [if_pos h0, if_pos h0]
      exact write_blow hk A n c hc.2 h0 h.d
    · rw [if_neg h0, if_neg h0]
      exact write_any hk A n c xs hin (fun hn ad e e2 => hA hn ad e (h.fo _ (by rw [e2]; exact h.d.mem))) hb hc.2 h0 (by omega) h.d
  · rw [if_neg hc, if_neg hc]
    refine (write_bad z A n c (fun e => hc ⟨⟨e.1, e.2.1⟩, e.2.2⟩) h.d).mono ?_
    rintro e w' ⟨he, rfl⟩
    exact ⟨he, acted_refl h.d⟩
theorem play_rwrite {A : Option Addr} {n c : Nat} {xs : List Nat} {z : Int} (h : Pair base O w gd s gm r) (hin : In w A n xs) (hb : ∀ x ∈ xs, x < 256) (hA : 0 < n → ∀ ad, A = some ad → ¬ Out base O ad.block) (hw : r.waits.length ≤ 1000000) :
    Calls Tryd.prog 23 #[.pointer (some ⟨gm, 0, none⟩), .int .i64 z, .slice A n c] w fun e w' => e = .returned (.int .i64 (r.wcode z n)) ∧ Pair base O w' gd s gm (r.wnext z n xs) ∧ But (Out base O) w w' := by
  refine h.callM (Q := fun e => e = .returned (.int .i64 (r.wcode z n))) fun F G h => ?_
  unfold St.wcode St.wnext
  by_cases hc : r.inn z ∧ n ≤ 64
  · rw [if_pos hc, if_pos hc]
    obtain ⟨k, rfl⟩ := Int.eq_ofNat_of_zero_le hc.1.1
    have hk : k < r.sure.length := by have := hc.1.2; omega
    by_cases h0 : r.lets = 0
    · rw [if_pos h0, if_pos h0]
      exact rwrite_blow hk A n c hc.2 h0 h.m
    · rw [if_neg h0, if_neg h0]
      exact rwrite_any hk hc.2 hin hb (fun hn ad e e2 => hA hn ad e (h.go _ e2)) h0 hw h.m
  · rw [if_neg hc, if_neg hc]
    refine (rwrite_bad z A n c (fun e => hc ⟨⟨e.1, e.2.1⟩, e.2.2⟩) h.m).mono ?_
    rintro e w' ⟨he, rfl⟩
    exact ⟨he, racted_refl h.m⟩
theorem play_sync (h : Pair base O w gd s gm r) :
    Calls Tryd.prog 12 #[.pointer (some ⟨gd, 0, none⟩)] w fun e w' => e = .returned (.int .i64 s.scode) ∧ Pair base O w' gd s.snext gm r ∧ But (Out base O) w w' := by
  refine h.callD (Q := fun e => e = .returned (.int .i64 s.scode)) fun F G h => ?_
  unfold St.scode St.snext
  by_cases h0 : s.lets = 0
  · rw [if_pos h0, if_pos h0]; exact sync_blow h0 h.d
  · rw [if_neg h0, if_neg h0]; exact sync_any h0 h.d
theorem play_rsync (h : Pair base O w gd s gm r) :
    Calls Tryd.prog 13 #[.pointer (some ⟨gm, 0, none⟩)] w fun e w' => e = .returned (.int .i64 r.scode) ∧ Pair base O w' gd s gm r.snext ∧ But (Out base O) w w' := by
  refine h.callM (Q := fun e => e = .returned (.int .i64 r.scode)) fun F G h => ?_
  unfold St.scode St.snext
  by_cases h0 : r.lets = 0
  · rw [if_pos h0, if_pos h0]; exact rsync_blow h0 h.m
  · rw [if_neg h0, if_neg h0]; exact rsync_any h0 h.m
theorem play_fuse {z : Int} (hz : z ≤ 9223372036854775807) (h : Pair base O w gd s gm r) :
    Calls Tryd.prog 17 #[.pointer (some ⟨gd, 0, none⟩), .int .i64 z] w fun e w' => e = .returned (.int .i64 0) ∧ Pair base O w' gd (s.fnext z) gm r ∧ But (Out base O) w w' :=
  h.callD (Q := fun e => e = .returned (.int .i64 0)) fun _ _ h => fuse_any z hz h.d
theorem play_rfuse {z : Int} (hz : z ≤ 9223372036854775807) (h : Pair base O w gd s gm r) :
    Calls Tryd.prog 22 #[.pointer (some ⟨gm, 0, none⟩), .int .i64 z] w fun e w' => e = .returned (.int .i64 0) ∧ Pair base O w' gd s gm (r.fnext z) ∧ But (Out base O) w w' :=
  h.callM (Q := fun e => e = .returned (.int .i64 0)) fun _ _ h => rfuse_any z hz h.m
theorem play_turn {z t : Int} {y : Nat} (hy : y < 256) (h : Pair base O w gd s gm r) :
    Calls Tryd.prog 20 #[.pointer (some ⟨gd, 0, none⟩), .int .i64 z, .int .i64 t, .int .u8 (y : Int)] w fun e w' => e = .returned (.int .i64 (s.tcode z t)) ∧ Pair base O w' gd (s.tnext z t y) gm r ∧ But (Out base O) w w' := by
  refine h.callD (Q := fun e => e = .returned (.int .i64 (s.tcode z t))) fun F G h => ?_
  unfold St.tcode St.tnext
  by_cases hc : s.inn z ∧ 0 ≤ t ∧ t < 64
  · rw [if_pos hc, if_pos hc]
    obtain ⟨n, rfl⟩ := Int.eq_ofNat_of_zero_le hc.1.1
    obtain ⟨k, rfl⟩ := Int.eq_ofNat_of_zero_le hc.2.1
    have hn : n < s.sure.length := by have := hc.1.2; omega
    have hk : k < 64 := by have := hc.2.2; omega
    cases hb : s.blown
    · exact turn_any hn hk hy hb h.d
    · refine (turn_blown hn hk hb h.d).mono ?_
      rintro e w' ⟨he, rfl⟩
      exact ⟨he, acted_refl h.d⟩
  · rw [if_neg hc, if_neg hc]
    refine (turn_bad z t y (fun e => hc ⟨⟨e.1, e.2.1⟩, e.2.2⟩) h.d).mono ?_
    rintro e w' ⟨he, rfl⟩
    exact ⟨he, acted_refl h.d⟩
theorem play_rturn {z t : Int} {y : Nat} (hy : y < 256) (h : Pair base O w gd s gm r) :
    Calls Tryd.prog 21 #[.pointer (some ⟨gm, 0, none⟩), .int .i64 z, .int .i64 t, .int .u8 (y : Int)] w fun e w' => e = .returned (.int .i64 (r.tcode z t)) ∧ Pair base O w' gd s gm (r.tnext z t y) ∧ But (Out base O) w w' := by
  refine h.callM (Q := fun e => e = .returned (.int .i64 (r.tcode z t))) fun F G h => ?_
  unfold St.tcode St.tnext
  by_cases hc : r.inn z ∧ 0 ≤ t ∧ t < 64
  · rw [if_pos hc, if_pos hc]
    obtain ⟨n, rfl⟩ := Int.eq_ofNat_of_zero_le hc.1.1
    obtain ⟨k, rfl⟩ := Int.eq_ofNat_of_zero_le hc.2.1
    have hn : n < r.sure.length := by have := hc.1.2; omega
    have hk : k < 64 := by have := hc.2.2; omega
    cases hb : r.blown
    · exact rturn_any (List.getElem?_eq_getElem (by rw [St.read_length]; exact hn)) hk hy hb h.m
    · refine (rturn_blown hn hk hb h.m).mono ?_
      rintro e w' ⟨he, rfl⟩
      exact ⟨he, racted_refl h.m⟩
  · rw [if_neg hc, if_neg hc]
    refine (rturn_bad z t y (fun e => hc ⟨⟨e.1, e.2.1⟩, e.2.2⟩) h.m).mono ?_
    rintro e w' ⟨he, rfl⟩
    exact ⟨he, racted_refl h.m⟩
/-- What is read: of the disk, a list of its own. -/
theorem play_read {z : Int} (h : Pair base O w gd s gm r) :
    Calls Tryd.prog 8 #[.pointer (some ⟨gd, 0, none⟩), .int .i64 z] w fun e w' => ∃ A n c, e = .returned (.tuple #[.slice A n c, .int .i64 (s.rcode z)]) ∧ n = (s.rlist z).length ∧ n ≤ 64 ∧ In w' A n (s.rlist z) ∧ (OwnB w' w.heap.size (.slice A n c) n (bvs (s.rlist z))) ∧ Below w.heap.size w w' := by
  obtain ⟨F, G, h⟩ := h
  unfold St.rcode St.rlist
  by_cases hc : s.inn z
  · rw [if_pos hc, if_pos hc]
    obtain ⟨k, rfl⟩ := Int.eq_ofNat_of_zero_le hc.1
    have hk : k < s.read.length := by rw [St.read_length]; have := hc.2; omega
    have hx := List.getElem?_eq_getElem hk
    refine (read_any hx h.d).mono ?_
    rintro e w' ⟨he, hB, hb⟩
    have hd : s.read.getD (k : Int).toNat [] = s.read[k] := by rw [Int.toNat_natCast, List.getD_eq_getElem?_getD, hx]; rfl
    have hl : s.read[k].length = 64 := ((disk_ok h.d).read _ (List.getElem_mem hk)).1
    rw [hd]
    refine ⟨some ⟨w.heap.size, 0, none⟩, 64, 64, he, hl.symm, Nat.le_refl _, ⟨hl, fun j x hj => ⟨_, rfl, hB.at_ j x hj⟩⟩, .inr ⟨?_, _, rfl⟩, hb⟩
    refine ⟨by rw [bvs_length, hl], .inr ⟨w.heap.size, 64, _, rfl, Nat.le_refl _, hB, Nat.le_refl _, by unfold maxLen; omega, by rw [List.size_toArray, bvs_length, hl], by show (bvs s.read[k]).toArray.toList.take (64 * 1) = _; rw [List.take_of_length_le (by rw [bvs_length, hl]; exact Nat.le_refl _)]⟩⟩
  · rw [if_neg hc, if_neg hc]
    refine (read_bad z hc h.d).mono ?_
    rintro e w' ⟨he, rfl⟩
    exact ⟨none, 0, 0, he, rfl, by omega, In.none_ _ _, .inl (World.ownsRow_nil _ _ _ _), Below.refl _ _⟩
theorem play_rread {z : Int} (h : Pair base O w gd s gm r) :
    Calls Tryd.prog 9 #[.pointer (some ⟨gm, 0, none⟩), .int .i64 z] w fun e w' => ∃ A n c, e = .returned (.tuple #[.slice A n c, .int .i64 (r.rcode z)]) ∧ n = (r.rlist z).length ∧ In w' A n (r.rlist z) ∧ Below w.heap.size w w' := by
  obtain ⟨F, G, h⟩ := h
  unfold St.rcode St.rlist
  by_cases hc : r.inn z
  · rw [if_pos hc, if_pos hc]
    obtain ⟨k, rfl⟩ := Int.eq_ofNat_of_zero_le hc.1
    have hk : k < r.read.length := by rw [St.read_length]; have := hc.2; omega
    have hx := List.getElem?_eq_getElem hk
    refine (rread_any hx h.m).mono ?_
    rintro e w' ⟨A, c, he, hin, hb⟩
    have hd : r.read.getD (k : Int).toNat [] = r.read[k] := by rw [Int.toNat_natCast, List.getD_eq_getElem?_getD, hx]; rfl
    rw [hd]
    exact ⟨A, 64, c, he, hin.len.symm, hin, hb⟩
  · rw [if_neg hc, if_neg hc]
    refine (rread_bad z hc h.m).mono ?_
    rintro e w' ⟨he, rfl⟩
    exact ⟨none, 0, 0, he, rfl, In.none_ _ _, Below.refl _ _⟩
theorem play_blown (h : Pair base O w gd s gm r) : Calls Tryd.prog 15 #[.pointer (some ⟨gd, 0, none⟩)] w fun e w' => e = .returned (.bool s.blown) ∧ w = w' := by
  obtain ⟨F, G, h⟩ := h; exact blown_any h.d
theorem play_rblown (h : Pair base O w gd s gm r) : Calls Tryd.prog 24 #[.pointer (some ⟨gm, 0, none⟩)] w fun e w' => e = .returned (.bool r.blown) ∧ w = w' := by
  obtain ⟨F, G, h⟩ := h; exact rblown_any h.m
theorem play_waits (h : Pair base O w gd s gm r) : Calls Tryd.prog 16 #[.pointer (some ⟨gd, 0, none⟩)] w fun e w' => e = .returned (.int .i64 (s.waits.length : Int)) ∧ w = w' := by
  obtain ⟨F, G, h⟩ := h; exact waits_any h.d
theorem play_rwaits (h : Pair base O w gd s gm r) : Calls Tryd.prog 25 #[.pointer (some ⟨gm, 0, none⟩)] w fun e w' => e = .returned (.int .i64 (r.waits.length : Int)) ∧ w = w' := by
  obtain ⟨F, G, h⟩ := h; exact rwaits_any h.m
theorem play_len (h : Pair base O w gd s gm r) : Calls Tryd.prog 26 #[.pointer (some ⟨gd, 0, none⟩)] w fun e w' => e = .returned (.int .i64 (s.sure.length : Int)) ∧ w = w' := by
  obtain ⟨F, G, h⟩ := h; exact len_any h.d
theorem play_rlen (h : Pair base O w gd s gm r) : Calls Tryd.prog 27 #[.pointer (some ⟨gm, 0, none⟩)] w fun e w' => e = .returned (.int .i64 (r.sure.length : Int)) ∧ w = w' := by
  obtain ⟨F, G, h⟩ := h; exact rlen_any h.m
end

end Go.Proofs.YtcdlocbonjgcgaaDoor
