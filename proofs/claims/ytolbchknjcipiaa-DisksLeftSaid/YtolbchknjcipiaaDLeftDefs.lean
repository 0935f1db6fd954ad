/-
  DisksLeft: what is left of a disk.
-/
import Derived.Test.YtolbchknjcipiaaDBools
import Derived.Deep.Cut
namespace Go.Proofs.Ytolbchknjcipiaa
open Go.RowKit

/-- The disk of five, made sure behind t writes. -/
def lst (ps : List (Nat × List Nat)) (t : Nat) : St := ⟨settle (zeros 5) (ps.take t), ps.drop t, -1, false⟩
theorem lst_read (ps : List (Nat × List Nat)) (t : Nat) : (lst ps t).read = settle (zeros 5) ps := by
  show settle (settle (zeros 5) (ps.take t)) (ps.drop t) = _
  rw [← settle_append, List.take_append_drop]
theorem lst_wst {ws : List (Nat × List Nat)} {t n : Nat} (hn : ws.length = n) (ht : t < n) : wst ws t n = lst (ws.map asW) t := by
  unfold wst lst
  rw [if_pos ht, List.take_of_length_le (l := ws) (i := n) (by omega), List.map_take, List.map_drop]
theorem lst_all {ws : List (Nat × List Nat)} {n : Nat} (hn : ws.length = n) : (wst ws n n).settled = lst (ws.map asW) n := by
  rw [wst_all hn (Nat.le_refl n)]
  unfold St.settled lst
  rw [List.take_of_length_le (by rw [List.length_map]; omega), List.drop_of_length_le (by rw [List.length_map]; omega)]
  rfl
theorem settle_five (ps : List (Nat × List Nat)) : (settle (zeros 5) ps).length = 5 := (settle_length _ _).trans (zeros_length 5)
theorem fresh_five {R : List (List Nat)} (h : R.length = 5) : (fresh R).sure.length = 5 := h
theorem Made.up {w w' : World} {s : St} {g : Nat} (h : Made w s g w') : Above 0 w' g s := h.above (Nat.zero_le _)
theorem CameRows.up {w w' : World} {A : Option Addr} {R : List (List Nat)} (h : CameRows w A 5 R) (hb : Below w.heap.size w w') : CameRows w' A 5 R := CameRows.below h hb

/-- '==' of two numbers that are the same, said without an equation that the walk could rewrite by. -/
theorem wpList_eql_true {ops : Array Oper} {rest : List Oper} {o : Oper} {a : Act} {Q : Exit → Act → World → Prop} {w : World} (hgd : o.guard = none) (x y : Operand) (ho : o.op = .binOp .eql 3 x y 3) (s n : Nat)
    (hx : a.eval x = .int .i64 (s : Int)) (hy : a.eval y = .int .i64 (n : Int)) (h : s = n) (hK : wpList Try.prog ops Q rest (a.put o.dst (.bool true)) w) : wpList Try.prog ops Q (o :: rest) a w := by
  subst h
  have hb : ((s : Int) == (s : Int)) = true := by simp
  refine wpList_plain hgd fun K hK' => ?_
  unfold Oper.wp execOp
  simp only [ho, hx, hy, Sem.run_bind, Sem.run_pure]
  rw [← hb] at hK
  exact hK' _ _ hK

end Go.Proofs.Ytolbchknjcipiaa
