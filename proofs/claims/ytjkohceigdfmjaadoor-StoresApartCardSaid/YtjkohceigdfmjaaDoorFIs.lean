/-
  errors.Is of two sentinels, or of none and one.
-/
import Derived.Test.YtjkohceigdfmjaaDoorLMem
import Derived.Test.YtjkohceigdfmjaaDoorFPure
import Derived.WalkKit
import Derived.LaidEql
import Derived.Stop.Asserts
import Derived.RowKitTokens
namespace Go.Proofs.YtjkohceigdfmjaaDoor
open Go.RowKit Go.Extern.Stop Go.Stop Go.Extern

theorem isTypeOf (v : Value) (w : World) : (Extern.ReflectliteType.typeOf #[.iface 142 v]).run Tryd.prog w = .ok (.iface 130 (.agg #[.pointer (some ⟨3, 142, none⟩)])) w := by kernel_rfl
theorem isComparable (w : World) : (callFunc 103 #[.agg #[.pointer (some ⟨3, 142, none⟩)]]).run Tryd.prog w = .ok (.value (.bool true)) w := by
  rw [@run_callFunc_extern Tryd.prog 103 _ (Extern.ReflectliteType.method fun t => do Go.Extern.Rtype.noPackHeld "Comparable" t; pure (.bool (← typeInfo t).comparable)) Tryd.func103 (by kernel_rfl) (by kernel_rfl) (by kernel_rfl) (by kernel_rfl)]
  kernel_rfl
theorem isMethodComparable (n : Nat) (v : Value) (w : World) : (Go.method (n + 1) 130 v "Comparable").run Tryd.prog w = .ok (103, v) w := by kernel_rfl
theorem isComp : (Tryd.prog.info? 142).map (·.comparable) = some true := by kernel_rfl
theorem isSize : (Tryd.prog.info? 166).map (·.size) = some 1 := by kernel_rfl
theorem noIsE (v : Value) (xT : TypeId) (w : World) : (Instr.typeAssert (.iface 142 v) xT 132 true).run Tryd.prog w = .ok (.tuple #[.nilIface, .bool false]) w := run_typeAssert_lacksB Tryd.underlying132 (by kernel_rfl) (by kernel_rfl) v xT w
theorem noUnwrapE (v : Value) (xT : TypeId) (w : World) : (Instr.typeAssert (.iface 142 v) xT 135 true).run Tryd.prog w = .ok (.tuple #[.nilIface, .bool false]) w := run_typeAssert_lacksB Tryd.underlying135 (by kernel_rfl) (by kernel_rfl) v xT w
theorem noUnwrapsE (v : Value) (xT : TypeId) (w : World) : (Instr.typeAssert (.iface 142 v) xT 137 true).run Tryd.prog w = .ok (.tuple #[.nilIface, .bool false]) w := run_typeAssert_lacksB Tryd.underlying137 (by kernel_rfl) (by kernel_rfl) v xT w

set_option maxRecDepth 100000 in
theorem is1_same (a : Addr) (w : World) :
    Calls Tryd.prog 79 #[.iface 142 (.pointer (some a)), .iface 142 (.pointer (some a)), .bool true] w fun e w' => e = .returned (.bool true) ∧ w = w' := by
  obtain ⟨i, hi, hcmp⟩ := Option.map_eq_some_iff.1 isComp
  obtain ⟨j, hj, hjs⟩ := Option.map_eq_some_iff.1 isSize
  have heq := run_eql_iface_ptr_same (P := Tryd.prog) w a Tryd.underlying95 Tryd.underlying142 hi hcmp hj
  go_enter Tryd.func79, Tryd.ntmps79
  go_wp2
  refine wp_loop_rounds 1 ?_
  rw [rounds_succ]
  go_wp2
  go_ret
  exact ⟨rfl, rfl⟩

set_option maxRecDepth 100000 in
theorem is1_other (a b : Addr) (ca cb : Array Value) (ta tb : TypeId) (w : World) (hne : a ≠ b) (ha : w.heap[a.block]? = some (.cells ca ta (0, 0))) (hb : w.heap[b.block]? = some (.cells cb tb (0, 0))) :
    Calls Tryd.prog 79 #[.iface 142 (.pointer (some a)), .iface 142 (.pointer (some b)), .bool true] w fun e w' => e = .returned (.bool false) ∧ w = w' := by
  obtain ⟨i, hi, hcmp⟩ := Option.map_eq_some_iff.1 isComp
  obtain ⟨j, hj, hjs⟩ := Option.map_eq_some_iff.1 isSize
  have nE := noIsE
  have uE := noUnwrapE
  have vE := noUnwrapsE
  have heq := run_eql_iface_ptr_other (P := Tryd.prog) w Tryd.underlying95 Tryd.underlying142 hi hcmp hj (by rw [hjs]; decide) hne ha hb
  go_enter Tryd.func79, Tryd.ntmps79
  go_wp2
  refine wp_loop_rounds 1 ?_
  rw [rounds_succ]
  go_wp2
  go_ret
  exact ⟨rfl, rfl⟩

set_option maxRecDepth 100000 in
/-- errors.Is(x, x). -/
theorem is_same (a : Addr) (w : World) :
    Calls Tryd.prog 62 #[.iface 142 (.pointer (some a)), .iface 142 (.pointer (some a))] w fun e w' => e = .returned (.bool true) ∧ w = w' := by
  have h8 := @run_callFunc_extern Tryd.prog 78 _ Extern.ReflectliteType.typeOf Tryd.func78 (by kernel_rfl) (by kernel_rfl) (by kernel_rfl) (by kernel_rfl)
  have tT := isTypeOf
  have cT := isComparable
  have mR := isMethodComparable
  have h1 := is1_same a w
  go_enter Tryd.func62, Tryd.ntmps62
  go_wp2_with (go_at_call 79; refine h1.mono ?_; rintro e w' ⟨rfl, rfl⟩)
  go_ret
  exact ⟨rfl, rfl⟩

set_option maxRecDepth 100000 in
/-- errors.Is(x, y), two different ones. -/
theorem is_other (a b : Addr) (ca cb : Array Value) (ta tb : TypeId) (w : World) (hne : a ≠ b) (ha : w.heap[a.block]? = some (.cells ca ta (0, 0))) (hb : w.heap[b.block]? = some (.cells cb tb (0, 0))) :
    Calls Tryd.prog 62 #[.iface 142 (.pointer (some a)), .iface 142 (.pointer (some b))] w fun e w' => e = .returned (.bool false) ∧ w = w' := by
  have h8 := @run_callFunc_extern Tryd.prog 78 _ Extern.ReflectliteType.typeOf Tryd.func78 (by kernel_rfl) (by kernel_rfl) (by kernel_rfl) (by kernel_rfl)
  have tT := isTypeOf
  have cT := isComparable
  have mR := isMethodComparable
  have h1 := Lib.hid (is1_other a b ca cb ta tb w hne ha hb)
  clear hne ha hb
  go_enter Tryd.func62, Tryd.ntmps62
  go_wp2_with (go_at_call 79; refine h1.out.mono ?_; rintro e w' ⟨rfl, rfl⟩)
  go_ret
  exact ⟨rfl, rfl⟩

/-- errors.Is(nil, x). -/
theorem is_nil (b : Addr) (w : World) :
    Calls Tryd.prog 62 #[.nilIface, .iface 142 (.pointer (some b))] w fun e w' => e = .returned (.bool false) ∧ w = w' := by
  have hn := run_eql_iface_nil_left (P := Tryd.prog) w 142 (.pointer (some b)) Tryd.underlying95
  go_enter Tryd.func62, Tryd.ntmps62
  go_wp2
  go_ret
  exact ⟨rfl, rfl⟩

def Bad.no : Bad → Nat | .short => 5 | .form => 4 | .sum => 6
/-- Where the sentinels lie. -/
structure Errs where
  (s f m : Addr)
def Errs.at_ (E : Errs) : Bad → Addr | .short => E.s | .form => E.f | .sum => E.m
def Errs.val (E : Errs) (b : Bad) : Value := .iface 142 (.pointer (some (E.at_ b)))
/-- The three sentinels lie in w, below B. -/
structure Laid (w : World) (E : Errs) : Prop where
  gs : w.cell? ⟨0, 0, none⟩ = some (.iface 142 (.pointer (some E.s)))
  gf : w.cell? ⟨2, 0, none⟩ = some (.iface 142 (.pointer (some E.f)))
  gm : w.cell? ⟨1, 0, none⟩ = some (.iface 142 (.pointer (some E.m)))
  row : ∀ b, ∃ c t, w.heap[(E.at_ b).block]? = some (.cells c t (0, 0))
  sf : E.s ≠ E.f
  sm : E.s ≠ E.m
  fm : E.f ≠ E.m

theorem Laid.below {w w' : World} {E : Errs} (h : Laid w E) (hb : Below w.heap.size w w') : Laid w' E :=
  ⟨(hb.cell (World.block_lt_of_cell? w _ h.gs)).trans h.gs, (hb.cell (World.block_lt_of_cell? w _ h.gf)).trans h.gf, (hb.cell (World.block_lt_of_cell? w _ h.gm)).trans h.gm,
    fun b => by
      obtain ⟨c, t, hc⟩ := h.row b
      exact ⟨c, t, (hb.block _ (Array.getElem?_eq_some_iff.1 hc).1).trans hc⟩, h.sf, h.sm, h.fm⟩

set_option maxRecDepth 100000 in
set_option maxHeartbeats 1000000 in
theorem told_nil (E : Errs) (w : World) (h : Laid w E) : Calls Tryd.prog 55 #[.nilIface] w fun e w' => e = .returned (.int .i64 0) ∧ w = w' := by
  obtain ⟨s, f, m⟩ := E
  have gs : w.cell? ⟨0, 0, none⟩ = some (.iface 142 (.pointer (some s))) := h.gs
  have gf : w.cell? ⟨2, 0, none⟩ = some (.iface 142 (.pointer (some f))) := h.gf
  have gm : w.cell? ⟨1, 0, none⟩ = some (.iface 142 (.pointer (some m))) := h.gm
  go_enter Tryd.func55, Tryd.ntmps55
  go_wp2_with fail
  refine (is_nil _ _).mono ?_
  rintro e w' ⟨rfl, rfl⟩
  go_wp2_with fail
  refine (is_nil _ _).mono ?_
  rintro e w' ⟨rfl, rfl⟩
  go_wp2_with fail
  refine (is_nil _ _).mono ?_
  rintro e w' ⟨rfl, rfl⟩
  go_wp2_with fail
  go_ret
  exact ⟨rfl, rfl⟩

set_option maxRecDepth 100000 in
set_option maxHeartbeats 1000000 in
theorem told_short (E : Errs) (w : World) (h : Laid w E) : Calls Tryd.prog 55 #[.iface 142 (.pointer (some E.s))] w fun e w' => e = .returned (.int .i64 5) ∧ w = w' := by
  obtain ⟨s, f, m⟩ := E
  show Calls Tryd.prog 55 #[.iface 142 (.pointer (some s))] w _
  have gs : w.cell? ⟨0, 0, none⟩ = some (.iface 142 (.pointer (some s))) := h.gs
  have gf : w.cell? ⟨2, 0, none⟩ = some (.iface 142 (.pointer (some f))) := h.gf
  have gm : w.cell? ⟨1, 0, none⟩ = some (.iface 142 (.pointer (some m))) := h.gm
  go_enter Tryd.func55, Tryd.ntmps55
  go_wp2_with fail
  refine (is_same _ _).mono ?_
  rintro e w' ⟨rfl, rfl⟩
  go_wp2_with fail
  go_ret
  exact ⟨rfl, rfl⟩

set_option maxRecDepth 100000 in
set_option maxHeartbeats 1000000 in
theorem told_form (E : Errs) (w : World) (h : Laid w E) : Calls Tryd.prog 55 #[.iface 142 (.pointer (some E.f))] w fun e w' => e = .returned (.int .i64 4) ∧ w = w' := by
  obtain ⟨s, f, m⟩ := E
  show Calls Tryd.prog 55 #[.iface 142 (.pointer (some f))] w _
  have gs : w.cell? ⟨0, 0, none⟩ = some (.iface 142 (.pointer (some s))) := h.gs
  have gf : w.cell? ⟨2, 0, none⟩ = some (.iface 142 (.pointer (some f))) := h.gf
  have gm : w.cell? ⟨1, 0, none⟩ = some (.iface 142 (.pointer (some m))) := h.gm
  obtain ⟨cs, ts, hs⟩ := h.row .short
  obtain ⟨cf, tf, hf⟩ := h.row .form
  have h1 := Lib.hid (is_other f s cf cs tf ts w h.sf.symm hf hs)
  clear hs hf
  go_enter Tryd.func55, Tryd.ntmps55
  go_wp2_with fail
  refine h1.out.mono ?_
  rintro e w' ⟨rfl, rfl⟩
  go_wp2_with fail
  refine (is_same _ _).mono ?_
  rintro e w' ⟨rfl, rfl⟩
  go_wp2_with fail
  go_ret
  exact ⟨rfl, rfl⟩

set_option maxRecDepth 100000 in
set_option maxHeartbeats 1000000 in
theorem told_sum (E : Errs) (w : World) (h : Laid w E) : Calls Tryd.prog 55 #[.iface 142 (.pointer (some E.m))] w fun e w' => e = .returned (.int .i64 6) ∧ w = w' := by
  obtain ⟨s, f, m⟩ := E
  show Calls Tryd.prog 55 #[.iface 142 (.pointer (some m))] w _
  have gs : w.cell? ⟨0, 0, none⟩ = some (.iface 142 (.pointer (some s))) := h.gs
  have gf : w.cell? ⟨2, 0, none⟩ = some (.iface 142 (.pointer (some f))) := h.gf
  have gm : w.cell? ⟨1, 0, none⟩ = some (.iface 142 (.pointer (some m))) := h.gm
  obtain ⟨cs, ts, hs⟩ := h.row .short
  obtain ⟨cf, tf, hf⟩ := h.row .form
  obtain ⟨cm, tm, hm⟩ := h.row .sum
  have h1 := Lib.hid (is_other m s cm cs tm ts w h.sm.symm hm hs)
  have h2 := Lib.hid (is_other m f cm cf tm tf w h.fm.symm hm hf)
  clear hs hf hm
  go_enter Tryd.func55, Tryd.ntmps55
  go_wp2_with fail
  refine h1.out.mono ?_
  rintro e w' ⟨rfl, rfl⟩
  go_wp2_with fail
  refine h2.out.mono ?_
  rintro e w' ⟨rfl, rfl⟩
  go_wp2_with fail
  refine (is_same _ _).mono ?_
  rintro e w' ⟨rfl, rfl⟩
  go_wp2_with fail
  go_ret
  exact ⟨rfl, rfl⟩

theorem told_bad (E : Errs) (b : Bad) (w : World) (h : Laid w E) : Calls Tryd.prog 55 #[E.val b] w fun e w' => e = .returned (.int .i64 (b.no : Int)) ∧ w = w' := by
  cases b with
  | short => exact told_short E w h
  | form => exact told_form E w h
  | sum => exact told_sum E w h

end Go.Proofs.YtjkohceigdfmjaaDoor
