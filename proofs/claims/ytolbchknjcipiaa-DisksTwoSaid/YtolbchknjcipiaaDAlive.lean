/-
  alive: answers that the document fixes.
-/
import Derived.Test.YtolbchknjcipiaaDBoth
import Derived.Lib.SmallJoins
namespace Go.Proofs.Ytolbchknjcipiaa
open Go.RowKit

def a0 : St := fresh (zeros 2)
def a1 : St := a0.wrote 0 [97]
def a2 : St := a1.settled
def a3 : St := a2.turned 0 0 3
def a4 : St := { a3 with lets := letsOf 0, blown := false }
def a5 : St := a4.burnt
def a6 : St := { a5 with lets := letsOf (-1), blown := false }

theorem a1_waits : a1.waits.length = 1 := rfl
theorem a1_read : a1.read[0]? = some (pad [97]) := by decide +kernel
theorem a1_none : (fresh (settle a1.sure (kept a1.waits []))).read[0]? = some (List.replicate 64 0) := by decide +kernel
theorem a1_all : (fresh (settle a1.sure (kept a1.waits [true]))).read[0]? = some (pad [97]) := by decide +kernel
theorem a2_burnt : a1.burnt.settled = a2 := rfl
theorem a2_sure : (fresh (settle a2.sure (kept a2.waits []))).read[0]? = some (pad [97]) := by decide +kernel
theorem a3_read : a3.read[0]? = some (pad [98]) := by decide +kernel
theorem a4_lets : a4.lets = 0 := rfl
theorem a5_blown : a5.blown = true := rfl
theorem a6_lets : a6.lets ≠ 0 := by decide

set_option maxRecDepth 100000 in
set_option maxHeartbeats 4000000 in
theorem alive_any (w : World) : Calls Try.prog 18 #[] w fun e w' => e = .returned (.bool true) ∧ Below w.heap.size w w' := by
  go_enter Try.func18, Try.ntmps18
  go_wp2_with fail
  refine (new_yes w 2 (by decide) (by decide)).mono ?_
  rintro e w1 ⟨g, rfl, hM⟩
  have h1 : Above w.heap.size w1 g a0 := hM.above (Nat.le_refl _)
  have b1 := hM.2
  clear hM
  have kc := Joins.run_convert_bytes_const_at (P := Try.prog) w1 22 5 #[.int .u8 97] 1 1 w1.heap.size rfl Try.underlying22 Try.underlying5
  obtain ⟨W1, hW1⟩ : ∃ W, w1.alloc (Obj.cells #[Value.int IntKind.u8 97] 5 (1, 2)) = W := ⟨_, rfl⟩
  have kc' : (convert 22 22 (.slice (some ⟨w1.heap.size, 0, none⟩) 1 1)).run Try.prog (w1.alloc (.cells #[.int .u8 97] 5)) = .ok (.slice (some ⟨w1.heap.size, 0, none⟩) 1 1) W1 := by rw [← hW1]; exact kc
  clear kc
  have s1 := b1.size
  have bW : Below w1.heap.size w1 W1 := hW1 ▸ below_alloc w1 (Obj.cells #[Value.int IntKind.u8 97] 5 (1, 2))
  have hin : In W1 (some ⟨w1.heap.size, 0, none⟩) 1 [97] := ⟨rfl, fun j x hx => ⟨_, rfl, by
    have hj : j < 1 := (List.getElem?_eq_some_iff.1 hx).1
    obtain rfl : j = 0 := by omega
    cases hx
    have := World.alloc_heap_new w1 (Obj.cells #[Value.int IntKind.u8 97] 5 (1, 2))
    rw [hW1] at this
    show W1.cell? ⟨w1.heap.size, 0, none⟩ = _
    rw [cell_of_row _ _ 0 _ _ (1, 2) this]
    rfl⟩⟩
  clear hW1
  go_wp2_with fail
  obtain ⟨F1, d1, f1⟩ := h1
  refine (write_any (k := 0) (by decide) _ 1 1 [97] hin (fun _ ad e => by cases e; have := d1.lt; show w1.heap.size ≠ g; omega) (by decide) (by decide) (by decide) (by decide) (d1.below bW)).mono ?_
  rintro e w2 ⟨rfl, ha⟩
  obtain ⟨h2, b2⟩ := ha.above f1 (show w.heap.size ≤ W1.heap.size by have := bW.size; omega)
  have b2 : Below w.heap.size w w2 := (below_on b1 (Nat.le_refl _) bW).trans b2
  clear ha f1 d1 hin bW b1 s1 kc'
  go_wp2_with fail
  obtain ⟨F2, d2, f2⟩ := h2
  have C1 := first_any (k := 0) a1_read d2
  rw [show (((pad [97]).getD 0 0 : Nat) : Int) = 97 from by decide +kernel] at C1
  refine C1.mono ?_
  rintro e w3 ⟨rfl, b3⟩
  clear C1
  have d3 := d2.below b3
  have b3' := below_on b2 (Nat.le_refl _) b3
  clear d2 b3 b2
  have C2 := waits_any d3
  rw [show ((a0.wrote 0 [97]).waits.length : Int) = 1 from rfl] at C2
  have hmk : (Instr.makeSlice 22 (.int .i64 65) (.int .i64 65)).run Try.prog w3 = .ok (.slice (some ⟨w3.heap.size, 0, none⟩) 65 65) (w3.alloc (.cells (madeCells #[.int .u8 0] 65) 5)) := make_bytes 65 65 (by decide) (by decide) w3
  obtain ⟨W4, hW4⟩ : ∃ W, w3.alloc (.cells (madeCells #[.int .u8 0] 65) 5) = W := ⟨_, rfl⟩
  have bW4 : Below w3.heap.size w3 W4 := hW4 ▸ below_alloc w3 _
  rw [hW4] at hmk
  have d4 := d3.below bW4
  have b4 := below_on b3' (Nat.le_refl _) bW4
  have f2' := f2
  clear hW4 bW4 b3'
  go_wp2_with fail
  refine C2.mono ?_
  rintro e w4 ⟨rfl, rfl⟩
  clear C2
  go_wp2_with fail
  refine (write_bad 2 none 0 0 (by intro h; have : (a0.wrote 0 [97]).sure.length = 2 := rfl; omega) d3).mono ?_
  rintro e w4 ⟨rfl, rfl⟩
  go_wp2_with fail
  refine (write_bad 0 (some ⟨w3.heap.size, 0, none⟩) 65 65 (by intro h; omega) d4).mono ?_
  rintro e w4 ⟨rfl, rfl⟩
  clear hmk d3
  go_wp2_with fail
  refine (left_any none 0 0 [] (InB.none_ _ _) d4).mono ?_
  rintro e w5 ⟨g1, rfl, m1⟩
  have d5 := d4.below m1.2
  have b5 := below_on b4 (Nat.le_refl _) m1.2
  clear d4 b4
  go_wp2_with fail
  obtain ⟨W6, hW6⟩ : ∃ W, w5.alloc (Obj.cells #[Value.bool true] 4) = W := ⟨_, rfl⟩
  have bW6 : Below w5.heap.size w5 W6 := hW6 ▸ below_alloc w5 _
  have hin : InB W6 (some ⟨w5.heap.size, 0, none⟩) 1 [true] := ⟨rfl, fun j x hx => ⟨_, rfl, by
    have hj : j < 1 := (List.getElem?_eq_some_iff.1 hx).1
    obtain rfl : j = 0 := by omega
    cases hx
    show W6.cell? ⟨w5.heap.size, 0, none⟩ = _
    have := World.alloc_heap_new w5 (Obj.cells #[Value.bool true] 4)
    rw [hW6] at this
    rw [cell_of_row _ _ 0 _ _ (0, 0) this]
    rfl⟩⟩
  rw [hW6]
  have d6 := d5.below bW6
  have n6 := m1.1.below bW6
  have b6 := below_on b5 (Nat.le_refl _) bW6
  clear d5 b5 hW6 bW6 m1
  refine (left_any _ 1 1 [true] hin d6).mono ?_
  rintro e w7 ⟨g2, rfl, m2⟩
  have d7 := d6.below m2.2
  have n7 := n6.below m2.2
  have b7 := below_on b6 (Nat.le_refl _) m2.2
  have l7 := m2.1
  clear d6 n6 b6 m2 hin
  have C3 := first_any (k := 0) a1_none n7
  rw [show (((List.replicate 64 0).getD 0 0 : Nat) : Int) = 0 from by decide +kernel] at C3
  go_wp2_with fail
  refine C3.mono ?_
  rintro e w8 ⟨rfl, b8⟩
  clear C3
  have C4 := first_any (k := 0) a1_all (l7.below b8)
  rw [show (((pad [97]).getD 0 0 : Nat) : Int) = 97 from by decide +kernel] at C4
  go_wp2_with fail
  refine C4.mono ?_
  rintro e w9 ⟨rfl, b9⟩
  clear C4
  have d9 := (d7.below b8).below b9
  have b9' := below_on (below_on b7 (Nat.le_refl _) b8) (Nat.le_refl _) b9
  clear d7 n7 l7 b7 b8 b9
  have C5 := sync_any (by decide) d9
  rw [show (a0.wrote 0 [97]).burnt.settled = a2 from rfl] at C5
  go_wp2_with fail
  refine C5.mono ?_
  rintro e w10 ⟨rfl, h10⟩
  obtain ⟨⟨F10, d10, f10⟩, b10⟩ := h10.above f2 b9'.size
  have b10' := b9'.trans b10
  clear C5 h10 d9 b9' b10 f2 f2'
  have C6 := waits_any d10
  rw [show (a2.waits.length : Int) = 0 from rfl] at C6
  go_wp2_with fail
  refine C6.mono ?_
  rintro e w11 ⟨rfl, rfl⟩
  clear C6
  go_wp2_with fail
  refine (left_any none 0 0 [] (InB.none_ _ _) d10).mono ?_
  rintro e w11 ⟨g3, rfl, m3⟩
  have bo := m3.both (s := a2) (g := g) ⟨F10, d10, f10⟩ b10'.size
  have b11 := below_on b10' (Nat.le_refl _) m3.2
  clear m3 d10 f10 b10'
  obtain ⟨F, G, dF, dG, hFG, hF, hG⟩ := bo
  have C7 := turn_any (n := 0) (k := 0) (y := 3) (by decide) (by decide) (by decide) rfl dF
  rw [show a2.turned 0 0 3 = a3 from rfl] at C7
  go_wp2_with fail
  refine C7.mono ?_
  rintro e w12 ⟨rfl, h12⟩
  obtain ⟨⟨F12, G12, dF12, dG12, hFG12, hF12, hG12⟩, b12⟩ := h12.both dG hFG hF hG b11.size
  have b12' := b11.trans b12
  clear C7 h12 dF dG hFG hF hG b11 b12
  have C8 := first_any (k := 0) a3_read dF12
  rw [show (((pad [98]).getD 0 0 : Nat) : Int) = 98 from by decide +kernel] at C8
  go_wp2_with fail
  refine C8.mono ?_
  rintro e w13 ⟨rfl, b13⟩
  clear C8
  have dF13 := dF12.below b13
  have dG13 := dG12.below b13
  have b13' := below_on b12' (Nat.le_refl _) b13
  clear dF12 dG12 b12' b13
  go_wp2_with fail
  refine (fuse_any 0 (by decide) dF13).mono ?_
  rintro e w14 ⟨rfl, h14⟩
  obtain ⟨⟨F14, G14, dF14, dG14, hFG14, hF14, hG14⟩, b14⟩ := h14.both dG13 hFG12 hF12 hG12 b13'.size
  have b14' := b13'.trans b14
  clear h14 dF13 dG13 hFG12 hF12 hG12 b13' b14
  go_wp2_with fail
  refine (sync_blow rfl dF14).mono ?_
  rintro e w15 ⟨rfl, h15⟩
  obtain ⟨⟨F15, G15, dF15, dG15, hFG15, hF15, hG15⟩, b15⟩ := h15.both dG14 hFG14 hF14 hG14 b14'.size
  have b15' := b14'.trans b15
  clear h15 dF14 dG14 hFG14 hF14 hG14 b14' b15
  have C9 := blown_any dF15
  rw [show St.blown _ = true from rfl] at C9
  go_wp2_with fail
  refine C9.mono ?_
  rintro e w16 ⟨rfl, rfl⟩
  clear C9
  go_wp2_with fail
  refine (turn_blown (n := 0) (k := 0) (y := 3) (by decide) (by decide) rfl dF15).mono ?_
  rintro e w16 ⟨rfl, rfl⟩
  have C10 := first_any (k := 0) a2_sure dG15
  rw [show (((pad [97]).getD 0 0 : Nat) : Int) = 97 from by decide +kernel] at C10
  go_wp2_with fail
  refine C10.mono ?_
  rintro e w17 ⟨rfl, b17⟩
  clear C10
  have dF17 := dF15.below b17
  have b17' := below_on b15' (Nat.le_refl _) b17
  clear dF15 dG15 b15' b17
  go_wp2_with fail
  refine (fuse_any (-1) (by decide) dF17).mono ?_
  rintro e w18 ⟨rfl, h18⟩
  obtain ⟨⟨F18, dF18, f18⟩, b18⟩ := h18.above hF15 b17'.size
  have b18' := b17'.trans b18
  clear h18 dF17 b17' b18
  go_wp2_with fail
  refine (sync_any (by decide) dF18).mono ?_
  rintro e w19 ⟨rfl, h19⟩
  obtain ⟨_, b19⟩ := h19.above f18 b18'.size
  have b19' := b18'.trans b19
  clear h19 dF18 b18' b19
  go_wp2
  go_ret
  exact ⟨rfl, b19'⟩

end Go.Proofs.Ytolbchknjcipiaa
