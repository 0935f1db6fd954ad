/-
  errors.Is of two sentinels, or of none and one.
-/
import Derived.Test.YthbgcijkpincfaaGreatDoorLMem
import Derived.Test.YthbgcijkpincfaaGreatDoorFPure
import Derived.WalkKit
import Derived.LaidEql
import Derived.Stop.Asserts
import Derived.RowKitTokens
namespace Go.Proofs.YthbgcijkpincfaaGreatDoor
open Go.RowKit Go.Extern.Stop Go.Stop Go.Extern

theorem isTypeOf (v : Value) (w : World) : (Extern.ReflectliteType.typeOf #[.iface 372 v]).run Tryz.prog w = .ok (.iface 333 (.agg #[.pointer (some ⟨10, 372, none⟩)])) w := by kernel_rfl
theorem isComparable (w : World) : (callFunc 351 #[.agg #[.pointer (some ⟨10, 372, none⟩)]]).run Tryz.prog w = .ok (.value (.bool true)) w := by
  rw [@run_callFunc_extern Tryz.prog 351 _ (Extern.ReflectliteType.method fun t => do Go.Extern.Rtype.noPackHeld "Comparable" t; pure (.bool (← typeInfo t).comparable)) Tryz.func351 (by kernel_rfl) (by kernel_rfl) (by kernel_rfl) (by kernel_rfl)]
  kernel_rfl
theorem isMethodComparable (n : Nat) (v : Value) (w : World) : (Go.method (n + 1) 333 v "Comparable").run Tryz.prog w = .ok (351, v) w := by kernel_rfl
theorem isComp : (Tryz.prog.info? 372).map (·.comparable) = some true := by kernel_rfl
theorem isSize : (Tryz.prog.info? 396).map (·.size) = some 1 := by kernel_rfl
theorem noIsE (v : Value) (xT : TypeId) (w : World) : (Instr.typeAssert (.iface 372 v) xT 335 true).run Tryz.prog w = .ok (.tuple #[.nilIface, .bool false]) w := run_typeAssert_lacksB Tryz.underlying335 (by kernel_rfl) (by kernel_rfl) v xT w
theorem noUnwrapE (v : Value) (xT : TypeId) (w : World) : (Instr.typeAssert (.iface 372 v) xT 338 true).run Tryz.prog w = .ok (.tuple #[.nilIface, .bool false]) w := run_typeAssert_lacksB Tryz.underlying338 (by kernel_rfl) (by kernel_rfl) v xT w
theorem noUnwrapsE (v : Value) (xT : TypeId) (w : World) : (Instr.typeAssert (.iface 372 v) xT 340 true).run Tryz.prog w = .ok (.tuple #[.nilIface, .bool false]) w := run_typeAssert_lacksB Tryz.underlying340 (by kernel_rfl) (by kernel_rfl) v xT w

set_option maxRecDepth 100000 in
theorem is1_same (a : Addr) (w : World) :
    Calls Tryz.prog 268 #[.iface 372 (.pointer (some a)), .iface 372 (.pointer (some a)), .bool true] w fun e w' => e = .returned (.bool true) ∧ w = w' := by
  obtain ⟨i, hi, hcmp⟩ := Option.map_eq_some_iff.1 isComp
  obtain ⟨j, hj, hjs⟩ := Option.map_eq_some_iff.1 isSize
  have heq := run_eql_iface_ptr_same (P := Tryz.prog) w a Tryz.underlying251 Tryz.underlying372 hi hcmp hj
  go_enter Tryz.func268, Tryz.ntmps268
  go_wp2
  refine wp_loop_rounds 1 ?_
  rw [rounds_succ]
  go_wp2
  go_ret
  exact ⟨rfl, rfl⟩

set_option maxRecDepth 100000 in
theorem is1_other (a b : Addr) (ca cb : Array Value) (ta tb : TypeId) (w : World) (hne : a ≠ b) (ha : w.heap[a.block]? = some (.cells ca ta (0, 0))) (hb : w.heap[b.block]? = some (.cells cb tb (0, 0))) :
    Calls Tryz.prog 268 #[.iface 372 (.pointer (some a)), .iface 372 (.pointer (some b)), .bool true] w fun e w' => e = .returned (.bool false) ∧ w = w' := by
  obtain ⟨i, hi, hcmp⟩ := Option.map_eq_some_iff.1 isComp
  obtain ⟨j, hj, hjs⟩ := Option.map_eq_some_iff.1 isSize
  have nE := noIsE
  have uE := noUnwrapE
  have vE := noUnwrapsE
  have heq := run_eql_iface_ptr_other (P := Tryz.prog) w Tryz.underlying251 Tryz.underlying372 hi hcmp hj (by rw [hjs]; decide) hne ha hb
  go_enter Tryz.func268, Tryz.ntmps268
  go_wp2
  refine wp_loop_rounds 1 ?_
  rw [rounds_succ]
  go_wp2
  go_ret
  exact ⟨rfl, rfl⟩

set_option maxRecDepth 100000 in
/-- errors.Is(x, x). -/
theorem is_same (a : Addr) (w : World) :
    Calls Tryz.prog 218 #[.iface 372 (.pointer (some a)), .iface 372 (.pointer (some a))] w fun e w' => e = .returned (.bool true) ∧ w = w' := by
  have h8 := @run_callFunc_extern Tryz.prog 267 _ Extern.ReflectliteType.typeOf Tryz.func267 (by kernel_rfl) (by kernel_rfl) (by kernel_rfl) (by kernel_rfl)
  have tT := isTypeOf
  have cT := isComparable
  have mR := isMethodComparable
  have h1 := is1_same a w
  go_enter Tryz.func218, Tryz.ntmps218
  go_wp2_with (go_at_call 268; refine h1.mono ?_; rintro e w' ⟨rfl, rfl⟩)
  go_ret
  exact ⟨rfl, rfl⟩

set_option maxRecDepth 100000 in
/-- errors.Is(x, y), two different ones. -/
theorem is_other (a b : Addr) (ca cb : Array Value) (ta tb : TypeId) (w : World) (hne : a ≠ b) (ha : w.heap[a.block]? = some (.cells ca ta (0, 0))) (hb : w.heap[b.block]? = some (.cells cb tb (0, 0))) :
    Calls Tryz.prog 218 #[.iface 372 (.pointer (some a)), .iface 372 (.pointer (some b))] w fun e w' => e = .returned (.bool false) ∧ w = w' := by
  have h8 := @run_callFunc_extern Tryz.prog 267 _ Extern.ReflectliteType.typeOf Tryz.func267 (by kernel_rfl) (by kernel_rfl) (by kernel_rfl) (by kernel_rfl)
  have tT := isTypeOf
  have cT := isComparable
  have mR := isMethodComparable
  have h1 := Lib.hid (is1_other a b ca cb ta tb w hne ha hb)
  clear hne ha hb
  go_enter Tryz.func218, Tryz.ntmps218
  go_wp2_with (go_at_call 268; refine h1.out.mono ?_; rintro e w' ⟨rfl, rfl⟩)
  go_ret
  exact ⟨rfl, rfl⟩

/-- errors.Is(nil, x). -/
theorem is_nil (b : Addr) (w : World) :
    Calls Tryz.prog 218 #[.nilIface, .iface 372 (.pointer (some b))] w fun e w' => e = .returned (.bool false) ∧ w = w' := by
  have hn := run_eql_iface_nil_left (P := Tryz.prog) w 372 (.pointer (some b)) Tryz.underlying251
  go_enter Tryz.func218, Tryz.ntmps218
  go_wp2
  go_ret
  exact ⟨rfl, rfl⟩

def Bad.no : Bad → Nat | .short => 5 | .form => 4 | .sum => 6
/-- Where the sentinels lie. -/
structure Errs where
  (s f m : Addr)
def Errs.at_ (E : Errs) : Bad → Addr | .short => E.s | .form => E.f | .sum => E.m
def Errs.val (E : Errs) (b : Bad) : Value := .iface 372 (.pointer (some (E.at_ b)))
/-- The three sentinels lie in w, below B. -/
structure Laid (w : World) (E : Errs) : Prop where
  gs : w.cell? ⟨2, 0, none⟩ = some (.iface 372 (.pointer (some E.s)))
  gf : w.cell? ⟨4, 0, none⟩ = some (.iface 372 (.pointer (some E.f)))
  gm : w.cell? ⟨3, 0, none⟩ = some (.iface 372 (.pointer (some E.m)))
  row : ∀ b, ∃ c t, w.heap[(E.at_ b).block]? = some (.cells c t (0, 0))
  sf : E.s ≠ E.f
  sm : E.s ≠ E.m
  fm : E.f ≠ E.m

theorem Laid.below {w w' : World} {E : Errs} (h : Laid w E) (hb : Below w.heap.size w w') : Laid w' E :=
  ⟨(hb.cell (World.block_lt_of_cell? w _ h.gs)).trans h.gs, (hb.cell (World.block_lt_of_cell? w _ h.gf)).trans h.gf, (hb.cell (World.block_lt_of_cell? w _ h.gm)).trans h.gm,
    fun b => by
      obtain ⟨c, t, hc⟩ := h.row b
      exact ⟨c, t, (hb.block _ (Array.getElem?_eq_some_iff.1 hc).1).trans hc⟩, h.sf, h.sm, h.fm⟩

set_option maxRecDepth 100000 in
set_option maxHeartbeats 1000000 in
theorem told_nil (E : Errs) (w : World) (h : Laid w E) : Calls Tryz.prog 239 #[.nilIface] w fun e w' => e = .returned (.int .i64 0) ∧ w = w' := by
  obtain ⟨s, f, m⟩ := E
  have gs : w.cell? ⟨2, 0, none⟩ = some (.iface 372 (.pointer (some s))) := h.gs
  have gf : w.cell? ⟨4, 0, none⟩ = some (.iface 372 (.pointer (some f))) := h.gf
  have gm : w.cell? ⟨3, 0, none⟩ = some (.iface 372 (.pointer (some m))) := h.gm
  go_enter Tryz.func239, Tryz.ntmps239
  go_wp2_with fail
  refine (is_nil _ _).mono ?_
  rintro e w' ⟨rfl, rfl⟩
  go_wp2_with fail
  refine (is_nil _ _).mono ?_
  rintro e w' ⟨rfl, rfl⟩
  go_wp2_with fail
  refine (is_nil _ _).mono ?_
  rintro e w' ⟨rfl, rfl⟩
  go_wp2_with fail
  go_ret
  exact ⟨rfl, rfl⟩

set_option maxRecDepth 100000 in
set_option maxHeartbeats 1000000 in
theorem told_short (E : Errs) (w : World) (h : Laid w E) : Calls Tryz.prog 239 #[.iface 372 (.pointer (some E.s))] w fun e w' => e = .returned (.int .i64 5) ∧ w = w' := by
  obtain ⟨s, f, m⟩ := E
  show Calls Tryz.prog 239 #[.iface 372 (.pointer (some s))] w _
  have gs : w.cell? ⟨2, 0, none⟩ = some (.iface 372 (.pointer (some s))) := h.gs
  have gf : w.cell? ⟨4, 0, none⟩ = some (.iface 372 (.pointer (some f))) := h.gf
  have gm : w.cell? ⟨3, 0, none⟩ = some (.iface 372 (.pointer (some m))) := h.gm
  go_enter Tryz.func239, Tryz.ntmps239
  go_wp2_with fail
  refine (is_same _ _).mono ?_
  rintro e w' ⟨rfl, rfl⟩
  go_wp2_with fail
  go_ret
  exact ⟨rfl, rfl⟩

set_option maxRecDepth 100000 in
set_option maxHeartbeats 1000000 in
theorem told_form (E : Errs) (w : World) (h : Laid w E) : Calls Tryz.prog 239 #[.iface 372 (.pointer (some E.f))] w fun e w' => e = .returned (.int .i64 4) ∧ w = w' := by
  obtain ⟨s, f, m⟩ := E
  show Calls Tryz.prog 239 #[.iface 372 (.pointer (some f))] w _
  have gs : w.cell? ⟨2, 0, none⟩ = some (.iface 372 (.pointer (some s))) := h.gs
  have gf : w.cell? ⟨4, 0, none⟩ = some (.iface 372 (.pointer (some f))) := h.gf
  have gm : w.cell? ⟨3, 0, none⟩ = some (.iface 372 (.pointer (some m))) := h.gm
  obtain ⟨cs, ts, hs⟩ := h.row .short
  obtain ⟨cf, tf, hf⟩ := h.row .form
  have h1 := Lib.hid (is_other f s cf cs tf ts w h.sf.symm hf hs)
  clear hs hf
  go_enter Tryz.func239, Tryz.ntmps239
  go_wp2_with fail
  refine h1.out.mono ?_
  rintro e w' ⟨rfl, rfl⟩
  go_wp2_with fail
  refine (is_same _ _).mono ?_
  rintro e w' ⟨rfl, rfl⟩
  go_wp2_with fail
  go_ret
  exact ⟨rfl, rfl⟩

set_option maxRecDepth 100000 in
set_option maxHeartbeats 1000000 in
theorem told_sum (E : Errs) (w : World) (h : Laid w E) : Calls Tryz.prog 239 #[.iface 372 (.pointer (some E.m))] w fun e w' => e = .returned (.int .i64 6) ∧ w = w' := by
  obtain ⟨s, f, m⟩ := E
  show Calls Tryz.prog 239 #[.iface 372 (.pointer (some m))] w _
  have gs : w.cell? ⟨2, 0, none⟩ = some (.iface 372 (.pointer (some s))) := h.gs
  have gf : w.cell? ⟨4, 0, none⟩ = some (.iface 372 (.pointer (some f))) := h.gf
  have gm : w.cell? ⟨3, 0, none⟩ = some (.iface 372 (.pointer (some m))) := h.gm
  obtain ⟨cs, ts, hs⟩ := h.row .short
  obtain ⟨cf, tf, hf⟩ := h.row .form
  obtain ⟨cm, tm, hm⟩ := h.row .sum
  have h1 := Lib.hid (is_other m s cm cs tm ts w h.sm.symm hm hs)
  have h2 := Lib.hid (is_other m f cm cf tm tf w h.fm.symm hm hf)
  clear hs hf hm
  go_enter Tryz.func239, Tryz.ntmps239
  go_wp2_with fail
  refine h1.out.mono ?_
  rintro e w' ⟨rfl, rfl⟩
  go_wp2_with fail
  refine h2.out.mono ?_
  rintro e w' ⟨rfl, rfl⟩
  go_wp2_with fail
  refine (is_same _ _).mono ?_
  rintro e w' ⟨rfl, rfl⟩
  go_wp2_with fail
  go_ret
  exact ⟨rfl, rfl⟩

theorem told_bad (E : Errs) (b : Bad) (w : World) (h : Laid w E) : Calls Tryz.prog 239 #[E.val b] w fun e w' => e = .returned (.int .i64 (b.no : Int)) ∧ w = w' := by
  cases b with
  | short => exact told_short E w h
  | form => exact told_form E w h
  | sum => exact told_sum E w h

end Go.Proofs.YthbgcijkpincfaaGreatDoor
