/-
  A frame's parts: what they are, how many bytes each has, and what is kept of each.
-/
import Derived.Test.YthbgcijkpincfaaGreatDoorFNum
import Derived.Test.YthbgcijkpincfaaGreatDoorFIs
namespace Go.Proofs.YthbgcijkpincfaaGreatDoor
open Go.RowKit

/-- Block g is a frame. -/
def Fr (w : World) (g : Nat) (num cnt sum : Nat) (r : Value) : Prop :=
  w.heap[g]? = some (.cells #[.int .u64 (num : Int), .int .i64 (cnt : Int), .int .u64 (sum : Int), r] 275 (0, 0))
section
variable {w w' : World} {g num cnt sum : Nat} {r : Value}
theorem Fr.lt (h : Fr w g num cnt sum r) : g < w.heap.size := (Array.getElem?_eq_some_iff.1 h).1
theorem Fr.below (h : Fr w g num cnt sum r) (hb : Below w.heap.size w w') : Fr w' g num cnt sum r := (hb.block g h.lt).trans h
theorem Fr.c0 (h : Fr w g num cnt sum r) : w.cell? ⟨g, 0, none⟩ = some (.int .u64 (num : Int)) := by rw [cell_of_row _ g 0 _ _ _ h]; rfl
theorem Fr.c1 (h : Fr w g num cnt sum r) : w.cell? ⟨g, 1, none⟩ = some (.int .i64 (cnt : Int)) := by rw [cell_of_row _ g 1 _ _ _ h]; rfl
theorem Fr.c2 (h : Fr w g num cnt sum r) : w.cell? ⟨g, 2, none⟩ = some (.int .u64 (sum : Int)) := by rw [cell_of_row _ g 2 _ _ _ h]; rfl
theorem Fr.c3 (h : Fr w g num cnt sum r) : w.cell? ⟨g, 3, none⟩ = some r := by rw [cell_of_row _ g 3 _ _ _ h]; rfl
theorem Fr.free (h : Fr w g num cnt sum r) (k : Nat) : w.frozen? ⟨g, k, none⟩ = false := frozen_of_row w g k _ _ h
theorem Fr.set0 (h : Fr w g num cnt sum r) (v : Nat) : Fr (w.setCell ⟨g, 0, none⟩ (.int .u64 (v : Int))) g v cnt sum r := heap_setCell_same w g 0 _ _ _ h
theorem Fr.set1 (h : Fr w g num cnt sum r) (v : Nat) : Fr (w.setCell ⟨g, 1, none⟩ (.int .i64 (v : Int))) g num v sum r := heap_setCell_same w g 1 _ _ _ h
theorem Fr.set2 (h : Fr w g num cnt sum r) (v : Nat) : Fr (w.setCell ⟨g, 2, none⟩ (.int .u64 (v : Int))) g num cnt v r := heap_setCell_same w g 2 _ _ _ h
theorem Fr.set3 (h : Fr w g num cnt sum r) (v : Value) : Fr (w.setCell ⟨g, 3, none⟩ v) g num cnt sum v := heap_setCell_same w g 3 _ _ _ h
theorem Fr.new (w : World) : Fr (w.alloc (.cells #[.int .u64 0, .int .i64 0, .int .u64 0, .slice none 0 0] 275)) w.heap.size 0 0 0 (.slice none 0 0) := World.alloc_heap_new w _
end

set_option maxRecDepth 100000 in
theorem always_any (k : Nat) (w : World) : Calls Tryz.prog 298 #[.int .i64 (k : Int)] w fun e w' =>
    e = .returned (.func (.func 316) #[] #[.pointer (some ⟨w.heap.size, 0, none⟩)]) ∧ w.alloc (.cells #[.int .i64 (k : Int)] 3) = w' := by
  go_enter Tryz.func298, Tryz.ntmps298
  go_wp2
  go_ret
  exact ⟨rfl, rfl⟩

set_option maxRecDepth 100000 in
theorem always1_any (p : Value) (B k : Nat) (w : World) (h : Boxed w B 3 (.int .i64 (k : Int))) : Calls Tryz.prog 316 #[p, .pointer (some ⟨B, 0, none⟩)] w fun e w' =>
    e = .returned (.int .i64 (k : Int)) ∧ w = w' := by
  have hc := h.cell
  go_enter Tryz.func316, Tryz.ntmps316
  go_wp2
  go_ret
  exact ⟨rfl, rfl⟩

set_option maxRecDepth 100000 in
theorem parts1_any (g num cnt sum : Nat) (r : Value) (w : World) (h : Fr w g num cnt sum r) : Calls Tryz.prog 303 #[.pointer (some ⟨g, 0, none⟩)] w fun e w' =>
    e = .returned (.int .i64 (cnt : Int)) ∧ w = w' := by
  have hc := h.c1
  go_enter Tryz.func303, Tryz.ntmps303
  go_wp2
  go_ret
  exact ⟨rfl, rfl⟩

set_option maxRecDepth 100000 in
theorem parts2_any (g num cnt sum : Nat) (hcnt : cnt ≤ 1000000000000) (r : Value) (w : World) (h : Fr w g num cnt sum r) : Calls Tryz.prog 305 #[.pointer (some ⟨g, 0, none⟩)] w fun e w' =>
    e = .returned (.int .i64 ((noug cnt : Nat) : Int)) ∧ w = w' := by
  have hc := h.c1
  have C := noughts_any cnt hcnt w
  go_enter Tryz.func305, Tryz.ntmps305
  go_wp2_with fail
  refine C.mono ?_
  rintro e w' ⟨rfl, rfl⟩
  go_wp2_with fail
  go_ret
  exact ⟨rfl, rfl⟩

set_option maxRecDepth 100000 in
theorem takeNum_any (g num cnt sum : Nat) (r : Value) (A : Option Addr) (n c : Nat) (xs : List Nat) (w : World) (h : Fr w g num cnt sum r) (hin : In w A n xs) (hx : ∀ x ∈ xs, x < 256) (hn : n ≤ 8) (hc : n ≤ c) :
    Calls Tryz.prog 300 #[.pointer (some ⟨g, 0, none⟩), .slice A n c] w fun e w' => e = .returned .nilIface ∧ w.setCell ⟨g, 0, none⟩ (.int .u64 (val xs : Int)) = w' := by
  have C := Lib.hid (number_any A n c xs w hin hx hn hc)
  have h0 := h.c0
  have f0 := h.free 0
  clear hx
  go_enter Tryz.func300, Tryz.ntmps300
  go_wp2_with fail
  refine C.out.mono ?_
  rintro e w' ⟨rfl, rfl⟩
  go_wp2_with fail
  go_ret
  exact ⟨rfl, rfl⟩

set_option maxRecDepth 100000 in
theorem takeSum_any (g num cnt sum : Nat) (r : Value) (A : Option Addr) (n c : Nat) (xs : List Nat) (w : World) (h : Fr w g num cnt sum r) (hin : In w A n xs) (hx : ∀ x ∈ xs, x < 256) (hn : n ≤ 8) (hc : n ≤ c) :
    Calls Tryz.prog 302 #[.pointer (some ⟨g, 0, none⟩), .slice A n c] w fun e w' => e = .returned .nilIface ∧ w.setCell ⟨g, 2, none⟩ (.int .u64 (val xs : Int)) = w' := by
  have C := Lib.hid (number_any A n c xs w hin hx hn hc)
  have h0 := h.c2
  have f0 := h.free 2
  clear hx
  go_enter Tryz.func302, Tryz.ntmps302
  go_wp2_with fail
  refine C.out.mono ?_
  rintro e w' ⟨rfl, rfl⟩
  go_wp2_with fail
  go_ret
  exact ⟨rfl, rfl⟩

set_option maxRecDepth 100000 in
theorem takeCount_any (E : Errs) (g num cnt sum : Nat) (r : Value) (A : Option Addr) (n c : Nat) (xs : List Nat) (m : Nat) (hm : val xs = m) (hm2 : m < 65536) (w : World) (h : Fr w g num cnt sum r) (hE : Laid w E) (hin : In w A n xs) (hx : ∀ x ∈ xs, x < 256) (hn : n ≤ 8) (hc : n ≤ c) :
    Calls Tryz.prog 301 #[.pointer (some ⟨g, 0, none⟩), .slice A n c] w fun e w' => e = .returned (if 256 < m then E.val .form else .nilIface) ∧ w.setCell ⟨g, 1, none⟩ (.int .i64 (m : Int)) = w' := by
  have C := Lib.hid (number_any A n c xs w hin hx hn hc)
  rw [hm] at C
  have h0 := h.c1
  have f0 := h.free 1
  have gf := hE.gf
  have hw : IntKind.i64.wrap (m : Int) = (m : Int) := by rw [IntKind.wrap_i64]; omega
  have h1 := (h.set1 m).c1
  have gf1 : (w.setCell ⟨g, 1, none⟩ (.int .i64 (m : Int))).cell? ⟨4, 0, none⟩ = some (.iface 372 (.pointer (some E.f))) := by
    by_cases hg : g = 4
    · exfalso
      rw [hg] at h0 h
      have := h.c0
      rw [gf] at this
      injection this with this
      cases this
    · rw [World.cell?_of_block (heap_setCell_other _ _ _ _ (by show 4 ≠ g; omega))]
      exact gf
  clear hx hm gf h
  by_cases hk : 256 < m
  · rw [if_pos hk]
    go_enter Tryz.func301, Tryz.ntmps301
    go_wp2_with fail
    refine C.out.mono ?_
    rintro e w' ⟨rfl, rfl⟩
    go_wp2_with fail
    go_ret
    exact ⟨rfl, rfl⟩
  · rw [if_neg hk]
    go_enter Tryz.func301, Tryz.ntmps301
    go_wp2_with fail
    refine C.out.mono ?_
    rintro e w' ⟨rfl, rfl⟩
    go_wp2_with fail
    go_ret
    exact ⟨rfl, rfl⟩

set_option maxRecDepth 100000 in
theorem takeRecord_any (g num cnt sum : Nat) (r : Value) (A : Option Addr) (n c : Nat) (w : World) (h : Fr w g num cnt sum r) :
    Calls Tryz.prog 304 #[.pointer (some ⟨g, 0, none⟩), .slice A n c] w fun e w' => e = .returned .nilIface ∧ w.setCell ⟨g, 3, none⟩ (.slice A n c) = w' := by
  have h0 := h.c3
  have f0 := h.free 3
  go_enter Tryz.func304, Tryz.ntmps304
  go_wp2_with fail
  go_ret
  exact ⟨rfl, rfl⟩

set_option maxRecDepth 100000 in
theorem takeNoughts_any (E : Errs) (p : Value) (A : Option Addr) (n c : Nat) (xs : List Nat) (w : World) (hE : Laid w E) (hin : In w A n xs) (hn : n ≤ 1000000000000) :
    Calls Tryz.prog 307 #[p, .slice A n c] w fun e w' => (xs = List.replicate n 0 ∧ e = .returned .nilIface ∨ xs ≠ List.replicate n 0 ∧ e = .returned (E.val .form)) ∧ w = w' := by
  have gf := hE.gf
  go_enter Tryz.func307, Tryz.ntmps307
  go_wp2
  go_loop [9] (fun i => ∃ j : Nat, j ≤ n ∧ i = .int .i64 (j : Int) ∧ xs.take j = List.replicate j 0) (fun i => n - (intOf i).toNat)
  case atStart => exact ⟨0, Nat.zero_le _, rfl, rfl⟩
  case round =>
    obtain ⟨j, hj, rfl, hz⟩ := hrel
    have HZ := Lib.hid hz
    clear hz
    by_cases hlt : j < n
    · obtain ⟨ad, x, rfl, hx, hc1⟩ := hin.at_ hlt
      have HX := Lib.hid hx
      clear hx
      have hjn : (j : Int) < (n : Int) := by omega
      by_cases h0 : x = 0
      · subst h0
        go_wp2
        go_round
        case rel => exact ⟨j + 1, by omega, by go_num, by rw [take_snoc_of HX.out, HZ.out, List.replicate_succ']⟩
        case measure => simp [intOf]; omega
      · have dx : ((x : Int) != 0) = true := by simp; omega
        have hne : xs ≠ List.replicate n 0 := by
          intro e
          have := HX.out
          rw [e, List.getElem?_replicate, if_pos hlt] at this
          injection this with this
          omega
        have HN := Lib.hid hne
        clear hne
        go_wp2
        go_ret
        exact ⟨.inr ⟨HN.out, rfl⟩, rfl⟩
    · obtain rfl : j = n := by omega
      have hyes : xs = List.replicate j 0 := by
        have := HZ.out
        rwa [List.take_of_length_le (Nat.le_of_eq hin.len)] at this
      have HY := Lib.hid hyes
      clear hyes
      go_wp2
      go_ret
      exact ⟨.inl ⟨HY.out, rfl⟩, rfl⟩

theorem takeNoughts_yes (E : Errs) (p : Value) (A : Option Addr) (n c : Nat) (xs : List Nat) (w : World) (hE : Laid w E) (hin : In w A n xs) (hn : n ≤ 1000000000000) (h : xs = List.replicate n 0) :
    Calls Tryz.prog 307 #[p, .slice A n c] w fun e w' => e = .returned .nilIface ∧ w = w' :=
  (takeNoughts_any E p A n c xs w hE hin hn).mono fun _ _ ⟨h1, h2⟩ => ⟨h1.elim (·.2) (fun k => absurd h k.1), h2⟩
theorem takeNoughts_no (E : Errs) (p : Value) (A : Option Addr) (n c : Nat) (xs : List Nat) (w : World) (hE : Laid w E) (hin : In w A n xs) (hn : n ≤ 1000000000000) (h : xs ≠ List.replicate n 0) :
    Calls Tryz.prog 307 #[p, .slice A n c] w fun e w' => e = .returned (E.val .form) ∧ w = w' :=
  (takeNoughts_any E p A n c xs w hE hin hn).mono fun _ _ ⟨h1, h2⟩ => ⟨h1.elim (fun k => absurd k.1 h) (·.2), h2⟩

end Go.Proofs.YthbgcijkpincfaaGreatDoor
