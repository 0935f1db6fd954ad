/-
  almonerref03.Block: a key's block, the document's.
-/
import Derived.Test.YtoojlpbfldnkpaaDoorMacOf
import Derived.Test.YtoojlpbfldnkpaaDoorRefOf
import Derived.Test.YtoojlpbfldnkpaaDoorLApp2
namespace Go.Proofs.YtoojlpbfldnkpaaDoor
open Go.RowKit

theorem fil_get (k : List Nat) (m : Nat) {j : Nat} (h : j < 64) : (fil k m)[j]? = some (k.getD j 0 ^^^ m) := by
  rw [fil, List.getElem?_map, List.getElem?_range h]; rfl
theorem own_le {w : World} {base base' size n : Nat} {e : TypeId} {v : Value} {xs : List Value} (h : w.ownsRow base e size v n xs) (hb : base' ≤ base) : w.ownsRow base' e size v n xs :=
  ⟨h.1, h.2.elim Or.inl (fun ⟨g, cap, cur, hv, hg, r⟩ => Or.inr ⟨g, cap, cur, hv, Nat.le_trans hb hg, r⟩)⟩

set_option maxRecDepth 100000 in
set_option maxHeartbeats 2000000 in
theorem refBlock_any (A : Option Addr) (n c m : Nat) (xs : List Nat) (w : World) (hx : Came w A n c xs) (hm : m < 256) (hn : n ≤ 900000000) :
    Calls Tryd.prog 64 #[.slice A n c, .int .u8 (m : Int)] w (Gives w.heap.size w 64 (fil (shortL xs) m)) := by
  have hl := hx.in_.len
  by_cases h : n ≤ 64
  · have HE := Lib.hid (show shortL xs = xs by unfold shortL; rw [if_pos (by omega)])
    have HS := Lib.hid (And.intro hx.in_ hx.lt)
    have hi : decide ((64 : Int) < (n : Int)) = false := by simp; omega
    clear hl hx
    go_enter Tryd.func64, Tryd.ntmps64
    go_wp2
    go_loopw [6, 7] (fun o i wr => ∃ (j : Nat) (A1 : Option Addr) (c1 : Nat), j ≤ 64 ∧ i = .int .i64 (j : Int) ∧ o = .slice A1 j c1 ∧ wr.ownsRow w.heap.size 5 1 (.slice A1 j c1) j (bvs ((fil xs m).take j)) ∧ Below w.heap.size w wr) (fun _ i _ => 64 - (intOf i).toNat)
    case atStart => exact ⟨0, none, 0, by omega, rfl, rfl, World.ownsRow_nil _ _ _ _, Below.refl _ _⟩
    case round =>
      obtain ⟨j, A1, c1, hj, rfl, rfl, ho, bel⟩ := hrel
      have hz := bel.size
      by_cases hlt : j < 64
      · by_cases hjn : j < n
        · obtain ⟨ad, x, hA, hx, hcell⟩ := (HS.out.1.below bel).at_ hjn
          have bx : x < 256 := HS.out.2 x (List.mem_of_getElem? hx)
          obtain ⟨y, hy⟩ : ∃ y, x ^^^ m = y := ⟨_, rfl⟩
          have q1 : bits .xor .u8 (x : Int) (m : Int) = (y : Int) := by rw [← hy]; exact u8_xor_nat x m bx hm
          have HF := Lib.hid (take_snoc_of (fil_get xs m hlt))
          rw [List.getD_eq_getElem?_getD, hx, Option.getD_some, hy] at HF
          have HO := Lib.hid (And.intro ho bel)
          have hji : (j : Int) < (n : Int) := by omega
          subst hA
          clear hx hy ho bel
          go_wp2_with (at_builtin; refine wpList_app _ rfl (.tmp 22) (.tmp 29) rfl w.heap.size A1 j c1 _ rfl (HO.out.1.alloc _) (some ⟨wr.heap.size, 0, none⟩) 1 1 [y] rfl (In.new wr [y]) (fun h => by cases h) (by omega) (by simp; omega) ?_; intro A4 c4 w4 ho4 hb4)
          have H4 := Lib.hid (And.intro ho4 ((HO.out.2.alloc hz _).trans hb4))
          clear ho4 hb4 q1 hcell
          go_roundw
          case rel => exact ⟨j + 1, A4, c4, by omega, by go_num, rfl, by rw [HF.out]; exact H4.out.1, H4.out.2⟩
          case measure => simp [intOf]; omega
        · have HF := Lib.hid (take_snoc_of (fil_get xs m hlt))
          rw [List.getD_eq_getElem?_getD, List.getElem?_eq_none (by rw [HS.out.1.len]; omega), Option.getD_none, Nat.zero_xor] at HF
          have HO := Lib.hid (And.intro ho bel)
          have hji : decide ((j : Int) < (n : Int)) = false := by simp; omega
          clear ho bel
          go_wp2_with (at_builtin; refine wpList_app _ rfl (.tmp 31) (.tmp 33) rfl w.heap.size A1 j c1 _ rfl (HO.out.1.alloc _) (some ⟨wr.heap.size, 0, none⟩) 1 1 [m] rfl (In.new wr [m]) (fun h => by cases h) (by omega) (by simp; omega) ?_; intro A4 c4 w4 ho4 hb4)
          have H4 := Lib.hid (And.intro ho4 ((HO.out.2.alloc hz _).trans hb4))
          clear ho4 hb4
          go_roundw
          case rel => exact ⟨j + 1, A4, c4, by omega, by go_num, rfl, by rw [HF.out]; exact H4.out.1, H4.out.2⟩
          case measure => simp [intOf]; omega
      · obtain rfl : j = 64 := by omega
        rw [List.take_of_length_le (by rw [fil_length]; omega)] at ho
        have HO := Lib.hid (And.intro ho bel)
        clear ho bel
        go_wp2
        go_ret
        exact ⟨A1, c1, rfl, by rw [HE.out]; exact HO.out.1, HO.out.2⟩
  · have HE := Lib.hid (show shortL xs = sha xs by unfold shortL; rw [if_neg (by omega)])
    have C1 := Lib.hid (refOf_any A n c xs w hx.in_ hx.lt hx.nil hn)
    have hsl := run_arr_all Tryd.underlying54
    obtain ⟨s, hs1⟩ : ∃ s, sha xs = s := ⟨_, rfl⟩
    have hl : s.length = 32 := by rw [← hs1]; exact sha_length xs
    have ls : ∀ x ∈ s, x < 256 := by rw [← hs1]; exact sha_lt xs
    rw [hs1] at C1 HE
    have HL := Lib.hid (And.intro hl ls)
    have hi : (64 : Int) < (n : Int) := by omega
    clear hs1 hl ls hx
    go_enter Tryd.func64, Tryd.ntmps64
    go_wp2_with fail
    refine C1.out.mono ?_
    rintro e w1 ⟨rfl, hb1⟩
    go_upto_region 3 with ((with_reducible refine wpList_store_new w1 _ ?_ rfl (.tmp 5) (.tmp 12) rfl rfl s HL.out.1 rfl ?_); · simp)
    obtain ⟨w2, hw2⟩ : ∃ w2, w2 = w1.alloc (.cells (bvs s).toArray 54) := ⟨_, rfl⟩
    obtain ⟨g, hg⟩ : ∃ g, w1.heap.size = g := ⟨_, rfl⟩
    have hi2 : In w2 (some ⟨g, 0, none⟩) 32 s := by rw [hw2, ← hg, ← HL.out.1]; exact In.new' w1 s _
    have hb2 : Below w.heap.size w w2 := by rw [hw2]; exact below_on hb1 (Nat.le_refl _) (below_alloc w1 _)
    rw [← hw2, hg]
    have HS := Lib.hid (And.intro hi2 HL.out.2)
    have HB2 := Lib.hid hb2
    clear hw2 hg hi2 hb2 hb1 C1
    go_wp2
    go_loopw [6, 7] (fun o i wr => ∃ (j : Nat) (A1 : Option Addr) (c1 : Nat), j ≤ 64 ∧ i = .int .i64 (j : Int) ∧ o = .slice A1 j c1 ∧ wr.ownsRow w2.heap.size 5 1 (.slice A1 j c1) j (bvs ((fil s m).take j)) ∧ Below w2.heap.size w2 wr) (fun _ i _ => 64 - (intOf i).toNat)
    case atStart => exact ⟨0, none, 0, by omega, rfl, rfl, World.ownsRow_nil _ _ _ _, Below.refl _ _⟩
    case round =>
      obtain ⟨j, A1, c1, hj, rfl, rfl, ho, bel⟩ := hrel
      have hz := bel.size
      by_cases hlt : j < 64
      · by_cases hjn : j < 32
        · obtain ⟨ad, x, hA, hx, hcell⟩ := (HS.out.1.below bel).at_ hjn
          have bx : x < 256 := HS.out.2 x (List.mem_of_getElem? hx)
          obtain ⟨y, hy⟩ : ∃ y, x ^^^ m = y := ⟨_, rfl⟩
          have q1 : bits .xor .u8 (x : Int) (m : Int) = (y : Int) := by rw [← hy]; exact u8_xor_nat x m bx hm
          have HF := Lib.hid (take_snoc_of (fil_get s m hlt))
          rw [List.getD_eq_getElem?_getD, hx, Option.getD_some, hy] at HF
          have HO := Lib.hid (And.intro ho bel)
          have hji : (j : Int) < 32 := by omega
          cases hA
          rw [add_zero_off] at hcell
          clear hx hy ho bel
          go_wp2_with (at_builtin; refine wpList_app _ rfl (.tmp 22) (.tmp 29) rfl w2.heap.size A1 j c1 _ rfl (HO.out.1.alloc _) (some ⟨wr.heap.size, 0, none⟩) 1 1 [y] rfl (In.new wr [y]) (fun h => by cases h) (by omega) (by simp; omega) ?_; intro A4 c4 w4 ho4 hb4)
          have H4 := Lib.hid (And.intro ho4 ((HO.out.2.alloc hz _).trans hb4))
          clear ho4 hb4 q1 hcell
          go_roundw
          case rel => exact ⟨j + 1, A4, c4, by omega, by go_num, rfl, by rw [HF.out]; exact H4.out.1, H4.out.2⟩
          case measure => simp [intOf]; omega
        · have HF := Lib.hid (take_snoc_of (fil_get s m hlt))
          rw [List.getD_eq_getElem?_getD, List.getElem?_eq_none (by rw [HS.out.1.len]; omega), Option.getD_none, Nat.zero_xor] at HF
          have HO := Lib.hid (And.intro ho bel)
          have hji : decide ((j : Int) < 32) = false := by simp; omega
          clear ho bel
          go_wp2_with (at_builtin; refine wpList_app _ rfl (.tmp 31) (.tmp 33) rfl w2.heap.size A1 j c1 _ rfl (HO.out.1.alloc _) (some ⟨wr.heap.size, 0, none⟩) 1 1 [m] rfl (In.new wr [m]) (fun h => by cases h) (by omega) (by simp; omega) ?_; intro A4 c4 w4 ho4 hb4)
          have H4 := Lib.hid (And.intro ho4 ((HO.out.2.alloc hz _).trans hb4))
          clear ho4 hb4
          go_roundw
          case rel => exact ⟨j + 1, A4, c4, by omega, by go_num, rfl, by rw [HF.out]; exact H4.out.1, H4.out.2⟩
          case measure => simp [intOf]; omega
      · obtain rfl : j = 64 := by omega
        rw [List.take_of_length_le (by rw [fil_length]; omega)] at ho
        have HO := Lib.hid (And.intro ho bel)
        clear ho bel
        go_wp2
        go_ret
        exact ⟨A1, c1, rfl, by rw [HE.out]; exact own_le HO.out.1 HB2.out.size, below_on HB2.out (Nat.le_refl _) HO.out.2⟩

end Go.Proofs.YtoojlpbfldnkpaaDoor
