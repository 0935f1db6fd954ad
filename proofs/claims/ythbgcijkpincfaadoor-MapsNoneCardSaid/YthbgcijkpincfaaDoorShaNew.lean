/-
  shas: New, isThere, Write.
-/
import Derived.Test.YthbgcijkpincfaaDoorShaFill
import Derived.Test.YthbgcijkpincfaaDoorShaZero
namespace Go.Proofs.YthbgcijkpincfaaDoor
open Go.RowKit

/-- The eight numbers at first stand where they should. -/
def Starts (w : World) : Prop := w.rangeAt 0 0 (uvs h0)
theorem Starts.below {w w' : World} (h : Starts w) (hb : Below w.heap.size w w') : Starts w' := fun j v hv => (hb.cell (World.block_lt_of_cell? w _ (h j v hv))).trans (h j v hv)
theorem Starts.only {g : Nat} {w w' : World} (h : Starts w) (ho : Only g w w') (hg : g ≠ 0) : Starts w' := fun j v hv => ho.cell (fun e => hg e.symm) (h j v hv)
theorem Starts.lt {w : World} (h : Starts w) : 0 < w.heap.size := World.block_lt_of_cell? w _ (h 0 (uv 1779033703) rfl)
theorem Knows.lt {w : World} (h : Knows w) : 2 < w.heap.size := World.block_lt_of_cell? w _ (h 0 (by omega))

def zero64 : List Nat := List.replicate 64 0
theorem h0_length : h0.length = 8 := rfl

theorem ran_new (w : World) : Ran (w.alloc (.cells (runCells h0 zero64 0).toArray 83)) w.heap.size [] zero64 :=
  ⟨⟨rfl, rfl, World.alloc_heap_new w _⟩, by decide, rfl⟩

theorem wpList_load_start {ops : Array Oper} {rest : List Oper} {o : Oper} {a : Act} {w : World} {Q : Exit → Act → World → Prop} (hgd : o.guard = none) (ho : o.op = .load 79 (.global 0)) (hs : Starts w)
    (h : wpList Tryd.prog ops Q rest (a.put o.dst (.agg (uvs h0).toArray)) w) : wpList Tryd.prog ops Q (o :: rest) a w :=
  wpList_load_mid hgd 79 _ ho 0 0 rfl (uvs h0) _ hs Tryd.underlying79 rfl info8 h

set_option maxRecDepth 100000 in
set_option maxHeartbeats 1000000 in
theorem new_any (w : World) (hs : Starts w) :
    Calls Tryd.prog 39 #[] w fun e w' => e = .returned (.pointer (some ⟨w.heap.size, 0, none⟩)) ∧ w' = w.alloc (.cells (runCells h0 zero64 0).toArray 83) := by
  obtain ⟨C, hC⟩ : ∃ C : Array Value, (runCells h0 zero64 0).toArray = C := ⟨_, rfl⟩
  rw [hC]
  obtain ⟨U, hU⟩ : ∃ U : Array Value, (uvs h0).toArray = U := ⟨_, rfl⟩
  go_enter Tryd.func39, Tryd.ntmps39
  have hUs : U.size = 8 := by rw [← hU]; rfl
  go_wp2_with (with_reducible refine wpList_load_start rfl rfl hs ?_)
  go_ret
  refine ⟨rfl, congrArg (fun c => w.alloc (.cells c 83)) ?_⟩
  subst hU hC
  kernel_rfl

set_option maxRecDepth 100000 in
set_option maxHeartbeats 1000000 in
theorem isThere_yes (g : Nat) (w : World) (h : w.cell? ⟨g, 0, none⟩ = some (.bool true)) :
    Calls Tryd.prog 46 #[.pointer (some ⟨g, 0, none⟩)] w fun e w' => e = .returned (.bool true) ∧ w = w' := by
  go_enter Tryd.func46, Tryd.ntmps46
  go_wp2
  go_ret
  exact ⟨rfl, rfl⟩
set_option maxRecDepth 100000 in
set_option maxHeartbeats 1000000 in
theorem isThere_not (g : Nat) (w : World) (h : w.cell? ⟨g, 0, none⟩ = some (.bool false)) :
    Calls Tryd.prog 46 #[.pointer (some ⟨g, 0, none⟩)] w fun e w' => e = .returned (.bool false) ∧ w = w' := by
  go_enter Tryd.func46, Tryd.ntmps46
  go_wp2
  go_ret
  exact ⟨rfl, rfl⟩
set_option maxRecDepth 100000 in
set_option maxHeartbeats 1000000 in
theorem isThere_nil (w : World) :
    Calls Tryd.prog 46 #[.pointer none] w fun e w' => e = .returned (.bool false) ∧ w = w' := by
  go_enter Tryd.func46, Tryd.ntmps46
  go_wp2
  go_ret
  exact ⟨rfl, rfl⟩

set_option maxRecDepth 100000 in
set_option maxHeartbeats 1000000 in
theorem write_any (g : Nat) (xs blk : List Nat) (A : Option Addr) (n c : Nat) (ys : List Nat) (w : World) (hr : Ran w g xs blk) (hin : In w A n ys) (hy : ∀ y ∈ ys, y < 256) (hA : Off A n g) (hc : n ≤ c) (hk : Knows w) (hg : g ≠ 2) (hn : xs.length + n ≤ 1000000000) :
    Calls Tryd.prog 40 #[.pointer (some ⟨g, 0, none⟩), .slice A n c] w fun e w' => e = .returned (.int .i64 0) ∧ (∃ blk', Ran w' g (xs ++ ys) blk') ∧ Only g w w' := by
  have HC := Lib.hid (fill_any g xs blk A n c ys w hr hin hy hA hc hk hg hn)
  have hm := hr.at_.made
  clear hr hin hy hA hc hk hg hn
  go_enter Tryd.func40, Tryd.ntmps40
  go_wp2_with fail
  refine (isThere_yes g w hm).mono ?_
  rintro e w1 ⟨rfl, rfl⟩
  go_wp2_with fail
  refine HC.out.mono ?_
  rintro e w1 ⟨rfl, hr1, ho1⟩
  go_wp2
  go_ret
  exact ⟨rfl, hr1, ho1⟩
set_option maxRecDepth 100000 in
set_option maxHeartbeats 1000000 in
theorem write_not (g : Nat) (v : Value) (w : World) (h : w.cell? ⟨g, 0, none⟩ = some (.bool false)) :
    Calls Tryd.prog 40 #[.pointer (some ⟨g, 0, none⟩), v] w fun e w' => e = .returned (.int .i64 2) ∧ w = w' := by
  go_enter Tryd.func40, Tryd.ntmps40
  go_wp2_with fail
  refine (isThere_not g w h).mono ?_
  rintro e w1 ⟨rfl, rfl⟩
  go_wp2
  go_ret
  exact ⟨rfl, rfl⟩
set_option maxRecDepth 100000 in
set_option maxHeartbeats 1000000 in
theorem write_nil (v : Value) (w : World) :
    Calls Tryd.prog 40 #[.pointer none, v] w fun e w' => e = .returned (.int .i64 2) ∧ w = w' := by
  go_enter Tryd.func40, Tryd.ntmps40
  go_wp2_with fail
  refine (isThere_nil w).mono ?_
  rintro e w1 ⟨rfl, rfl⟩
  go_wp2
  go_ret
  exact ⟨rfl, rfl⟩

end Go.Proofs.YthbgcijkpincfaaDoor
