/-
  SumsJoin: the sum of two lists together is known by theirs.
-/
import Derived.Test.YtnfjmhoejmhbeaaSumAlive
import Derived.Test.YtnfjmhoejmhbeaaLRow
import Derived.Deep.Cut
namespace Go.Proofs.Ytnfjmhoejmhbeaa
open Go.RowKit

/-- A row of the call's own: what the contracts ask of a slice. -/
theorem own_facts {w : World} {base n c : Nat} {A : Option Addr} {xs : List Nat} (h : w.ownsRow base 5 1 (.slice A n c) n (bvs xs)) : In w A n xs ∧ (A = none → n = 0) ∧ n ≤ c := by
  refine ⟨In.of_own h, ?_, ?_⟩
  · intro e
    rcases h.2 with ⟨_, h0⟩ | ⟨g, cap, cur, e1, _⟩
    · exact h0
    · cases e1; cases e
  · rcases h.2 with ⟨e1, h0⟩ | ⟨g, cap, cur, e1, r⟩
    · omega
    · cases e1
      exact r.2.2.1

set_option maxRecDepth 100000 in
set_option maxHeartbeats 1000000 in
theorem sumsJoin_law (w : World) {A : Option Addr} {n c : Nat} {xs : List Nat} (h : Came w A n c xs) {B : Option Addr} {m d : Nat} {ys : List Nat} (k : Came w B m d ys) :
    Calls Try.prog 8 #[.slice A n c, .slice B m d] w fun e w' => e = .returned (.bool true) ∧ Below w.heap.size w w' := by
  go_enter Try.func8, Try.ntmps8
  by_cases hn : n ≤ 20000
  · by_cases hm : m ≤ 20000
    · have HX := Lib.hid h
      have HY := Lib.hid k
      have J1 := join_low xs ys
      have J2 := join_high xs ys
      have J3 := join_on xs ys
      rw [k.in_.len] at J2
      obtain ⟨x, hx⟩ : ∃ x, ofL xs = x := ⟨_, rfl⟩
      obtain ⟨y, hy⟩ : ∃ y, ofL ys = y := ⟨_, rfl⟩
      obtain ⟨z, hz⟩ : ∃ z, ofL (xs ++ ys) = z := ⟨_, rfl⟩
      have lx : x < 4294967296 := by rw [← hx]; exact onL_lt 1 xs
      have ly : y < 4294967296 := by rw [← hy]; exact onL_lt 1 ys
      have lz : z < 4294967296 := by rw [← hz]; exact onL_lt 1 _
      rw [hx, hy, hz] at J1 J2
      rw [hx, hz] at J3
      have C1 := of_any A n c xs w h.in_ h.lt (fun e => by have := h.nil e; have := h.cap; omega) h.cap (by omega)
      have C2 := fun W (b : Below w.heap.size w W) => of_any B m d ys W (k.in_.below b) k.lt (fun e => by have := k.nil e; have := k.cap; omega) k.cap (by omega)
      have C4 := fun W (b : Below w.heap.size w W) => of_any A n c xs W (h.in_.below b) h.lt (fun e => by have := h.nil e; have := h.cap; omega) h.cap (by omega)
      have C5 := fun W (b : Below w.heap.size w W) => on_any x lx B m d ys W (k.in_.below b) k.lt (fun e => by have := k.nil e; have := k.cap; omega) k.cap (by omega)
      have hlt : ∀ v ∈ xs ++ ys, v < 256 := fun v hv => (List.mem_append.1 hv).elim (h.lt v) (k.lt v)
      have C3 := fun W b0 D e (o : W.ownsRow b0 5 1 (.slice D (n + m) e) (n + m) (bvs (xs ++ ys))) => of_any D (n + m) e (xs ++ ys) W (own_facts o).1 hlt (own_facts o).2.1 (own_facts o).2.2 (by omega)
      rw [hx] at C1
      simp only [hx] at C4
      simp only [hy] at C2
      simp only [hz] at C3
      simp only [← J3] at C5
      obtain ⟨xl, hxl⟩ : ∃ xl, x % 65536 = xl := ⟨_, rfl⟩
      obtain ⟨xh, hxh⟩ : ∃ xh, x / 65536 = xh := ⟨_, rfl⟩
      obtain ⟨yl, hyl⟩ : ∃ yl, y % 65536 = yl := ⟨_, rfl⟩
      obtain ⟨yh, hyh⟩ : ∃ yh, y / 65536 = yh := ⟨_, rfl⟩
      rw [hxl, hyl] at J1
      rw [hxh, hyh, hxl] at J2
      obtain ⟨t, ht⟩ : ∃ t, m * (xl + 65521 - 1) = t := ⟨_, rfl⟩
      have bt : t ≤ 20000 * 131072 := by rw [← ht]; exact Nat.mul_le_mul (by omega) (by omega)
      have ht' : (m : Int) * ((xl : Int) + 65521 - 1) = (t : Int) := by rw [← ht, show (xl : Int) + 65521 - 1 = ((xl + 65521 - 1 : Nat) : Int) by omega]; simp
      rw [ht] at J2
      have bh : xh < 65536 ∧ yh < 65536 ∧ xl < 65536 ∧ yl < 65536 := by omega
      have q1 : (x : Int) % 65536 = (xl : Int) := by omega
      have q2 : (x : Int) / 65536 = (xh : Int) := by omega
      have q3 : (y : Int) % 65536 = (yl : Int) := by omega
      have q4 : (y : Int) / 65536 = (yh : Int) := by omega
      obtain ⟨lo1, hlo⟩ : ∃ l, (xl + yl + 65521 - 1) % 65521 = l := ⟨_, rfl⟩
      obtain ⟨hi1, hhi⟩ : ∃ l, (xh + yh + t) % 65521 = l := ⟨_, rfl⟩
      have q5 : ((xl : Int) + (yl : Int) + 65521 - 1) % 65521 = (lo1 : Int) := by omega
      have q6 : ((xh : Int) + (yh : Int) + (t : Int)) % 65521 = (hi1 : Int) := by omega
      rw [hlo] at J1
      rw [hhi] at J2
      have q7 : (z : Int) % 65536 = (lo1 : Int) := by omega
      have q8 : (z : Int) / 65536 = (hi1 : Int) := by omega
      have bl : lo1 < 65536 ∧ hi1 < 65536 := by omega
      have Q1 := Lib.hid (And.intro q1 (And.intro q3 q5))
      have Q2 := Lib.hid (And.intro q2 (And.intro q4 (And.intro q1 (And.intro ht' (And.intro q6 bt)))))
      have Q3 := Lib.hid (And.intro q7 q8)
      have BH := Lib.hid bh
      have BL := Lib.hid bl
      have hinB := fun W (b : Below w.heap.size w W) => k.in_.below b
      have hinA := fun W (b : Below w.heap.size w W) => h.in_.below b
      have hnA := Lib.hid h.nil
      have hnB := Lib.hid k.nil
      have HiA := Lib.hid hinA
      have HiB := Lib.hid hinB
      have HC3 := Lib.hid C3
      have HC4 := Lib.hid C4
      have HC5 := Lib.hid C5
      have HC2 := Lib.hid C2
      clear hinA hinB C3 C4 C5 C2
      clear hx hy hz hxl hxh hyl hyh ht J1 J2 J3 h k hlt hlo hhi q1 q2 q3 q4 q5 q6 q7 q8 ht' bt bh bl
      go_wp2_with fail
      refine C1.mono ?_
      rintro e w1 ⟨rfl, b1⟩
      go_wp2_with fail
      refine (HC2.out _ b1).mono ?_
      rintro e w2 ⟨rfl, b2⟩
      have b12 := Lib.hid (below_then b1 (Nat.le_refl _) b2)
      clear b1 b2 C1
      go_upto_region 6 with (first
        | (at_builtin; refine wpList_app _ rfl (.const (.slice none 0 0)) (.tmp 25) rfl w2.heap.size none 0 0 [] rfl (World.ownsRow_nil _ _ _ _) A n c xs rfl (HiA.out _ b12.out) hnA.out (by omega) (Nat.le_refl _) ?_; intro A3 c3 w3 ho3 hb3; rw [List.nil_append, Nat.zero_add] at ho3)
        | (at_builtin; refine wpList_app _ rfl (.tmp 26) (.tmp 27) rfl w2.heap.size A3 n c3 xs rfl ho3 B m d ys rfl (HiB.out _ (below_then b12.out (Nat.le_refl _) hb3)) hnB.out (by omega) hb3.size ?_; intro A4 c4 w4 ho4 hb4)
        | (go_at_call 10; refine (HC3.out _ _ _ _ ho4).mono ?_; rintro e w5 ⟨rfl, b5⟩; have b15 := below_then (b12.out.trans ((hb3.trans hb4).mono b12.out.size)) (Nat.le_refl _) b5))
      clear ho3 hb3 ho4 hb4 b5
      have B15 := Lib.hid b15
      have q1 := Q1.out.1
      have q3 := Q1.out.2.1
      have q5 := Q1.out.2.2
      have b1 := BH.out.2.2.1
      have b2 := BH.out.2.2.2
      clear b15 lz
      go_upto_region 7 with (fail)
      rw [q5]
      clear q3 q5
      have q2 := Q2.out.1
      have q4 := Q2.out.2.1
      have q6 := Q2.out.2.2.2.2.1
      have ht' := Q2.out.2.2.2.1
      have bt := Q2.out.2.2.2.2.2
      have b3 := BH.out.1
      have b4 := BH.out.2.1
      go_upto_region 8 with (fail)
      rw [q6]
      clear q1 q2 q4 q6 ht' bt b1 b2 b3 b4 hn hm
      have q7 := Q3.out.1
      have q8 := Q3.out.2
      have b5 := BL.out.1
      have b6 := BL.out.2
      go_wp2_with fail
      refine (alive_any _).mono ?_
      rintro e w6 ⟨rfl, b7⟩
      have b16 := below_then B15.out (Nat.le_refl _) b7
      have hB16 := Lib.hid b16
      clear b7 b16
      go_wp2_with (first
        | (go_at_call 10; refine (HC4.out _ hB16.out).mono ?_; rintro e w7 ⟨rfl, b8⟩; have b17 := below_then hB16.out (Nat.le_refl _) b8)
        | (go_at_call 12; refine (HC5.out _ b17).mono ?_; rintro e w8 ⟨rfl, b9⟩))
      go_ret
      exact ⟨rfl, below_then b17 (Nat.le_refl _) b9⟩
    · go_wp2_with fail
      refine (alive_any _).mono ?_
      rintro e w2 ⟨rfl, b2⟩
      go_wp2_with fail
      go_ret
      exact ⟨rfl, b2⟩
  · go_wp2_with fail
    refine (alive_any _).mono ?_
    rintro e w2 ⟨rfl, b2⟩
    go_wp2_with fail
    go_ret
    exact ⟨rfl, b2⟩

end Go.Proofs.Ytnfjmhoejmhbeaa
