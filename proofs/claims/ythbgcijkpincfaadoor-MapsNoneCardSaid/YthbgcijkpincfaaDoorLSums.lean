/-
  Slices of sums in a walk.
-/
import Derived.Test.YthbgcijkpincfaaDoorLSum
import Derived.Test.YthbgcijkpincfaaDoorLMem
namespace Go.Proofs.YthbgcijkpincfaaDoor
open Go.RowKit

/-- A call has answered m sums, whose bytes are ys, a number, and no error. -/
def GivesSums (base : Nat) (w : World) (m : Nat) (ys : List Nat) (took : Int) (e : Ending) (w' : World) : Prop :=
  ∃ A c, e = .returned (.tuple #[.slice A m c, .int .i64 took, .int .i64 0]) ∧ w'.ownsRow base 23 32 (.slice A m c) m (bvs ys) ∧ Below base w w'

theorem make_sums (m : Nat) (hm : m < 65536) (W : World) :
    (Instr.makeSlice 59 (.int .i64 (m : Int)) (.int .i64 (m : Int))).run Tryd.prog W = .ok (.slice (some ⟨W.heap.size, 0, none⟩) m m) (W.alloc (.cells (madeCells (Array.replicate 32 (.int .u8 0)) (m * 32)) 23)) := by
  obtain ⟨i0, hi, hz0, hz1, hz2⟩ := info_parts infoSum
  have hr := run_make (P := Tryd.prog) W 59 23 i0 _ Tryd.underlying59 hi hz0 .i64 .i64 m m (by omega) (by omega) (by rw [hz2]; omega) (by omega)
  rw [hz1, Int.toNat_natCast] at hr
  exact hr

/-- The first 32 * j bytes of block g have been copied. -/
def SumsAt (w : World) (g m j : Nat) (ys : List Nat) (wr : World) : Prop :=
  ∃ cur : List Value, cur.length = m * 32 ∧ wr.heap[g]? = some (.cells cur.toArray 23 (0, 0)) ∧ cur.take (32 * j) = bvs (ys.take (32 * j)) ∧ Below g w wr

/-- One sum more has been copied. -/
theorem sums_step {w w' : World} {g m j : Nat} {ys : List Nat} {cur : List Value} (hj : j < m) (hl : cur.length = m * 32) (ht : cur.take (32 * j) = bvs (ys.take (32 * j))) (hc : (bvs ((ys.drop (32 * j)).take 32)).length = 32)
    (hh : w'.heap[g]? = some (.cells (splice cur (j * 32) (bvs ((ys.drop (32 * j)).take 32))).toArray 23 (0, 0))) (hb : Below g w w') : SumsAt w g m (j + 1) ys w' := by
  refine ⟨_, ?_, hh, ?_, hb⟩
  · rw [length_splice _ _ _ (by rw [hc, hl]; omega), hl]
  · rw [show 32 * (j + 1) = 32 * j + 32 by omega, take_more, bvs_append, ← ht, splice, show j * 32 = 32 * j by omega]
    have h1 : (cur.take (32 * j)).length = 32 * j := by rw [List.length_take, hl]; omega
    have h2 : List.take (32 * j + 32) (List.take (32 * j) cur) = List.take (32 * j) cur := List.take_of_length_le (by rw [h1]; omega)
    have h3 : List.take 32 (bvs ((ys.drop (32 * j)).take 32)) = bvs ((ys.drop (32 * j)).take 32) := List.take_of_length_le (by rw [hc]; omega)
    rw [List.take_append, h1, h2, show 32 * j + 32 - 32 * j = 32 by omega, List.take_append, hc, h3]
    simp

/-- The same of sums. -/
theorem cut_nameS {A : Option Addr} {n c k : Nat} (hk : k ≤ n) :
    ∃ B, (∀ W : World, (Instr.slice 59 (.slice A n c) (some (.int .i64 (k : Int))) none none).run Tryd.prog W = .ok (.slice B (n - k) (c - k)) W) ∧
      B = (if c = k then A else A.map (·.add (k * 32))) := by
  refine ⟨_, fun W => ?_, rfl⟩
  obtain ⟨i0, hi, hz0, hz1, hz2⟩ := info_parts infoSum
  have he : Tryd.prog.elem 59 = 23 := by kernel_rfl
  rw [run_slice_l W 59 A n c (by rw [he]; exact Tryd.underlying59) .i64 (k : Int) (by omega) (by omega), he]
  simp [sizeOf, typeInfo, hi, hz1, sliced]

end Go.Proofs.YthbgcijkpincfaaDoor
