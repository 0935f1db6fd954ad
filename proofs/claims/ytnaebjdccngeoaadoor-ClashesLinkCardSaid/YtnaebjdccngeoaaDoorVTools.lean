/-
  What the laws of layer 8 share: parts of a list of sums.
-/
import Derived.Test.YtnaebjdccngeoaaDoorVRoot
import Derived.Test.YtnaebjdccngeoaaDoorVList
import Derived.Test.YtnaebjdccngeoaaDoorLRowS
namespace Go.Proofs.YtnaebjdccngeoaaDoor
open Go.RowKit

/-- The root of three, of one. -/
theorem nth_flat (x y z : List Nat) (hx : x.length = 32) (hy : y.length = 32) (hz : z.length = 32) : nth [x, y, z].flatten 0 = x ∧ nth [x, y, z].flatten 1 = y ∧ nth [x, y, z].flatten 2 = z := by
  have hl : ∀ s ∈ [x, y, z], s.length = 32 := by intro s hs; simp at hs; rcases hs with rfl | rfl | rfl; exact hx; exact hy; exact hz
  exact ⟨nth_flatten _ hl 0 x rfl, nth_flatten _ hl 1 y rfl, nth_flatten _ hl 2 z rfl⟩
theorem rt_three (x y z : List Nat) (hx : x.length = 32) (hy : y.length = 32) (hz : z.length = 32) : rt (nth [x, y, z].flatten) 0 3 = nodeL (nodeL x y) z := by
  obtain ⟨h0, h1, h2⟩ := nth_flat x y z hx hy hz
  have c3 : cutN 3 = 2 := by decide
  have c2 : cutN 2 = 1 := by decide
  rw [rt_cut _ 0 (by omega), c3, rt_cut _ 0 (by omega), c2, rt_one, rt_one, rt_one, h0, h1, h2]
theorem rt_single (x : List Nat) (hx : x.length = 32) : rt (nth [x].flatten) 0 1 = x := by
  rw [rt_one]; exact nth_flatten [x] (by intro s hs; simp at hs; rw [hs]; exact hx) 0 x rfl

/-- Root of a list that a literal made. -/
theorem root_new (B W : World) (ss : List (List Nat)) (n : Nat) (r : List Nat) (hn : n = ss.length) (hl : ∀ s ∈ ss, s.length = 32) (hb : ∀ s ∈ ss, ∀ x ∈ s, x < 256) (h9 : n ≤ 9) (hr : rt (nth ss.flatten) 0 n = r)
    (hB : Below B.heap.size B W) (hk : Knows B) (hs : Starts B) :
    Calls Tryd.prog 12 #[.slice (some ⟨W.heap.size, 0, none⟩) n n] (W.alloc (.cells (bvs ss.flatten).toArray 36)) fun e w' => e = .returned (sv r) ∧ Below B.heap.size B w' := by
  have b2 := hB.alloc hB.size (.cells (bvs ss.flatten).toArray 36)
  have hlen : ss.flatten.length = 32 * n := by
    rw [List.length_flatten, hn]
    clear hr hn hb b2
    induction ss with
    | nil => rfl
    | cons s ss ih =>
      rw [List.map_cons, List.sum_cons, ih (fun x hx => hl x (List.mem_cons_of_mem _ hx)), hl s (List.mem_cons_self ..), List.length_cons]
      omega
  have := root_any (some ⟨W.heap.size, 0, none⟩) n n ss.flatten _ ⟨hlen, (In.new' W ss.flatten 36).rd⟩ (by intro x hx; obtain ⟨s, hs, hxs⟩ := List.mem_flatten.1 hx; exact hb s hs x hxs) (Nat.le_refl _) (by omega) (hk.below b2) (hs.below b2)
  rw [hr] at this
  exact this.mono fun e w' ⟨he, hb'⟩ => ⟨he, below_on b2 (Nat.le_refl _) hb'⟩

theorem add_zero' (a : Addr) : a.add 0 = a := by unfold Addr.add; split <;> simp_all

theorem run_take_sums {ad : Addr} {n c k : Nat} (hk : k ≤ n) (hc : n ≤ c) (W : World) :
    (Instr.slice 24 (.slice (some ad) n c) none (some (.int .i64 (k : Int))) none).run Tryd.prog W = .ok (.slice (some ad) k c) W := by
  obtain ⟨i0, hi, hz0, hz1, hz2⟩ := info_parts infoSum
  have he : Tryd.prog.elem 24 = 36 := by kernel_rfl
  rw [run_slice_h W 24 (some ad) n c (by rw [he]; exact Tryd.underlying24) .i64 (k : Int) (by omega) (by omega), he]
  simp [sizeOf, typeInfo, hi, hz1, sliced, add_zero']

theorem run_drop_sums {ad : Addr} {n c k : Nat} (hk : k < n) (hc : n ≤ c) (W : World) :
    (Instr.slice 24 (.slice (some ad) n c) (some (.int .i64 (k : Int))) none none).run Tryd.prog W = .ok (.slice (some (ad.add (k * 32))) (n - k) (c - k)) W := by
  obtain ⟨i0, hi, hz0, hz1, hz2⟩ := info_parts infoSum
  have he : Tryd.prog.elem 24 = 36 := by kernel_rfl
  rw [run_slice_l W 24 (some ad) n c (by rw [he]; exact Tryd.underlying24) .i64 (k : Int) (by omega) (by omega), he]
  have hne : c ≠ k := by omega
  simp [sizeOf, typeInfo, hi, hz1, sliced, hne]

theorem nth_take {ys : List Nat} {k j : Nat} (h : j < k) : nth (ys.take (32 * k)) j = nth ys j := by
  rw [nth, nth, List.drop_take, List.take_take, Nat.min_eq_left (by omega)]
theorem nth_drop (ys : List Nat) (k j : Nat) : nth (ys.drop (32 * k)) j = nth ys (k + j) := by
  rw [nth, nth, List.drop_drop, Nat.mul_add]
theorem rt_take (ys : List Nat) (k : Nat) : rt (nth (ys.take (32 * k))) 0 k = rt (nth ys) 0 k := rt_congr _ _ k 0 0 fun j hj => by rw [Nat.zero_add]; exact nth_take hj
theorem rt_drop (ys : List Nat) (k m : Nat) : rt (nth (ys.drop (32 * k))) 0 m = rt (nth ys) k m := rt_congr _ _ m 0 k fun j _ => by rw [Nat.zero_add]; exact nth_drop ys k j

theorem InS.some_ {w : World} {A : Option Addr} {n : Nat} {ys : List Nat} (h : InS w A n ys) (hn : 0 < n) : ∃ ad, A = some ad := by
  obtain ⟨ad, e, _⟩ := h.at_ hn
  exact ⟨ad, e⟩
theorem InS.drop_ {w : World} {ad : Addr} {n : Nat} {ys : List Nat} (h : InS w (some ad) n ys) (k : Nat) (hk : k ≤ n) : InS w (some (ad.add (k * 32))) (n - k) (ys.drop (32 * k)) :=
  ⟨by rw [List.length_drop, h.len]; omega, by rw [Nat.mul_comm k]; exact h.rd.drop (32 * k)⟩

/-- A contract, from a world that came later. -/
theorem later {P : Program} {f : FuncId} {args : Array Value} {B W : World} {v v' : Value} (hW : Below B.heap.size B W) (hv : v = v')
    (h : Calls P f args W fun e w' => e = .returned v ∧ Below W.heap.size W w') : Calls P f args W fun e w' => e = .returned v' ∧ Below B.heap.size B w' :=
  h.mono fun _ _ ⟨he, hb⟩ => ⟨by rw [he, hv], below_on hW (Nat.le_refl _) hb⟩

/-- A sum that is asked for behind '&&'. -/
theorem wpList_load_sum_g {ops : Array Oper} {rest : List Oper} {o : Oper} {a : Act} {w : World} {Q : Exit → Act → World → Prop} (hw : Region.wanted o (yielded ops a.tmps) = true) (x : Operand) (ho : o.op = .load 36 x)
    (ad : Addr) (hx : a.eval x = .pointer (some ad)) (s : List Nat) (hl : s.length = 32) (hc : At w ad s)
    (h : wpList Tryd.prog ops Q rest (a.put o.dst (sv s)) w) : wpList Tryd.prog ops Q (o :: rest) a w := by
  refine wpList_step fun K hK => ?_
  rw [if_pos hw]
  unfold Oper.wp execOp
  simp only [ho, hx, Instr.loadAt, Instr.sureAddr, Sem.run_bind, Sem.run_pure, Result.andThen_ok, run_load_sum w ad s hl hc]
  exact hK _ _ h

end Go.Proofs.YtnaebjdccngeoaaDoor
