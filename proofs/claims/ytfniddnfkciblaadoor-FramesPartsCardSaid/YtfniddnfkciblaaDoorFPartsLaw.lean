/-
  FramesParts: a frame is its mark, its number, how many bytes there are, their sum, they, and noughts.
-/
import Derived.Test.YtfniddnfkciblaaDoorFAlive
import Derived.Test.YtfniddnfkciblaaDoorLRow
import Derived.Test.YtfniddnfkciblaaDoorLSameBytes
import Derived.Test.YtfniddnfkciblaaDoorLApp2
import Derived.Deep.Cut
namespace Go.Proofs.YtfniddnfkciblaaDoor
open Go.RowKit

theorem take_frame {num : Nat} {xs : List Nat} {h : Nat} (hh : 18 + xs.length = h) : (frameL num xs).take h = headL num xs ++ xs := by
  unfold frameL
  exact take_append_len _ _ _ (by rw [List.length_append, headL_length]; exact hh)
theorem rest_frame {num : Nat} {xs : List Nat} {h j : Nat} (hh : 18 + xs.length = h) (hj : h ≤ j) (hl : j < (frameL num xs).length) : (frameL num xs)[j]? = some 0 := by
  have e : (frameL num xs).length = (headL num xs ++ xs).length + noug xs.length := by unfold frameL; rw [List.length_append, List.length_replicate]
  have e2 : (headL num xs ++ xs).length = h := by rw [List.length_append, headL_length]; exact hh
  unfold frameL
  rw [List.getElem?_append_right (by omega), List.getElem?_replicate, if_pos (by omega)]

/-- 'append(s, l...)', the length under a name. -/
theorem wpList_app_to {ops : Array Oper} {rest : List Oper} {o : Oper} {a : Act} {Q : Exit → Act → World → Prop} (w : World) (hgd : o.guard = none) (s x : Operand)
    (ho : o.op = .call { callee := .builtin .append, args := #[s, x], argTypes := #[23, 23] })
    (base : Nat) (A : Option Addr) (n c : Nat) (xs : List Nat) (hs : a.eval s = .slice A n c) (hown : w.ownsRow base 5 1 (.slice A n c) n (bvs xs))
    (A2 : Option Addr) (m c2 : Nat) (ys : List Nat) (hx : a.eval x = .slice A2 m c2) (hin : In w A2 m ys) (hnil : A2 = none → c2 = 0) (k : Nat) (hk : n + m = k) (hle : n + m ≤ 140737488355328) (hbase : base ≤ w.heap.size)
    (h : ∀ A' c' w', w'.ownsRow base 5 1 (.slice A' k c') k (bvs (xs ++ ys)) → Next w w' (.slice A n c) (.slice A' k c') → wpList Tryd.prog ops Q rest (a.put o.dst (.slice A' k c')) w') :
    wpList Tryd.prog ops Q (o :: rest) a w := by
  subst hk
  exact wpList_app_at w hgd s x ho base A n c xs hs hown A2 m c2 ys hx hin hnil hle hbase h

set_option maxRecDepth 100000 in
set_option maxHeartbeats 2000000 in
theorem framesParts_law (w : World) (E : Errs) (hE : Laid w E) {num : Nat} (_ : num < 18446744073709551616) {A : Option Addr} {n c : Nat} {xs : List Nat} (hx : Came w A n c xs) :
    Calls Tryd.prog 5 #[.int .u64 (num : Int), .slice A n c] w fun e W' => e = .returned (.bool true) ∧ Below w.heap.size w W' := by
  have HE := Lib.hid hE
  have HX := Lib.hid hx
  clear hE hx
  by_cases hn : 256 < n
  · have C1 := Lib.hid (put_great num n c A w hn)
    have hni : (256 : Int) < (n : Int) := by omega
    go_enter Tryd.func5, Tryd.ntmps5
    go_wp2_with fail
    refine C1.out.mono ?_
    rintro e w2 ⟨rfl, rfl⟩
    go_wp2_with fail
    refine (alive_any E _ HE.out).mono ?_
    rintro e w3 ⟨rfl, hb3⟩
    have B3 := Lib.hid hb3
    clear hb3
    go_wp2_with fail
    go_ret
    exact ⟨rfl, B3.out⟩
  · have hn2 : n ≤ 256 := by omega
    have C1 := Lib.hid (put_frame num n c A xs w hn2 HX.out.in_ HX.out.lt (fun e => by have := HX.out.nil e; have := HX.out.cap; omega) HX.out.cap)
    unfold PutPost at C1
    have hfl := frameL_length num xs
    rw [HX.out.in_.len] at hfl
    have hs1 := secs_ge n
    have hs5 := secs_le n hn2
    obtain ⟨L, hL⟩ : ∃ L, 64 * secs n = L := ⟨_, rfl⟩
    rw [hL] at C1 hfl hs1
    have hL2 : L ≤ 320 := by omega
    clear hL hs5
    have HFL := Lib.hid hfl
    have C2 := Lib.hid (fun W => put_nil num 8 (by omega) W)
    have C3 := Lib.hid (fun (A2 : Option Addr) (c2 : Nat) (W : World) (h : In W A2 8 (dg num 8)) => put_any A2 8 c2 (dg num 8) n 2 2 (kk_nat 2 (by omega)) W h (by omega))
    have C4 := Lib.hid (fun (A2 : Option Addr) (c2 : Nat) (W : World) (h : In W A2 14 (recMark ++ toldL num n)) => put_any A2 14 c2 (recMark ++ toldL num n) (sumL num xs) 4 4 (kk_nat 4 (by omega)) W h (by omega))
    have kc := fun (W : World) (C : Array Value) (n c g : Nat) (hg : g = W.heap.size) => Joins.run_convert_bytes_const_at (P := Tryd.prog) W 23 5 C n c g hg Tryd.underlying23 Tryd.underlying5
    have hwn : IntKind.u64.wrap (n : Int) = (n : Int) := by rw [IntKind.wrap_u64]; omega
    have hwrap : IntKind.u64.wrap ((sumL num xs : Nat) : Int) = ((sumL num xs : Nat) : Int) := by have := sumL_lt num xs; rw [IntKind.wrap_u64]; omega
    clear hfl
    go_enter Tryd.func5, Tryd.ntmps5
    go_wp2_with fail
    refine C1.out.mono ?_
    rintro e w2 ⟨A2, c2, rfl, ho2, hb2⟩
    have H2 := Lib.hid (And.intro (In.of_own ho2) hb2)
    have hcap2 : L ≤ c2 := own_cap ho2
    clear ho2 hb2
    go_wp2_with fail
    refine (C2.out _).mono ?_
    rintro e w3 ⟨A3, c3, rfl, ho3, hb3⟩
    have H3 := Lib.hid (And.intro (In.of_own ho3) (below_next H2.out.2 (Nat.le_refl _) hb3))
    have D3 := Lib.hid hb3
    clear ho3 hb3
    go_wp2_with fail
    refine (C3.out _ _ _ H3.out.1).mono ?_
    rintro e w4 ⟨A4, c4, rfl, ho4, hb4⟩
    obtain ⟨g4, rfl⟩ := own_ad ho4 (by omega)
    have hg4 : g4 < w4.heap.size := (ho4.lt g4 rfl).2
    have O4 := Lib.hid (show w4.ownsRow w3.heap.size 5 1 (.slice (some ⟨g4, 0, none⟩) 10 c4) 10 (bvs (toldL num n)) from ho4)
    have B4 := Lib.hid (below_next H3.out.2 (Nat.le_refl _) hb4)
    have hb34 := Lib.hid hb4
    have D4 := Lib.hid (below_next D3.out (Nat.le_refl _) hb4)
    clear ho4 hb4
    have i5 : In (w4.alloc (.cells #[.int .u8 82, .int .u8 69, .int .u8 67, .int .u8 49] 5 (4, 5))) (some ⟨w4.heap.size, 0, none⟩) 4 recMark := In.lit_ w4 recMark (4, 5)
    have hb5 := below_alloc w4 (.cells #[.int .u8 82, .int .u8 69, .int .u8 67, .int .u8 49] 5 (4, 5))
    have kc4 := kc w4 #[.int .u8 82, .int .u8 69, .int .u8 67, .int .u8 49] 4 4 w4.heap.size rfl
    have hs5 := World.size_alloc w4 (.cells #[.int .u8 82, .int .u8 69, .int .u8 67, .int .u8 49] 5 (4, 5))
    obtain ⟨w5, hw5⟩ : ∃ w5, w4.alloc (.cells #[.int .u8 82, .int .u8 69, .int .u8 67, .int .u8 49] 5 (4, 5)) = w5 := ⟨_, rfl⟩
    have kc5 : (convert 23 23 (.slice (some ⟨w4.heap.size, 0, none⟩) 4 4)).run Tryd.prog (w4.alloc (.cells #[.int .u8 82, .int .u8 69, .int .u8 67, .int .u8 49] 5)) = .ok (.slice (some ⟨w4.heap.size, 0, none⟩) 4 4) w5 := by
      rw [← hw5]; exact kc4
    rw [hw5] at i5 hb5 hs5
    have I5 := Lib.hid (And.intro i5 (And.intro ((In.of_own O4.out).below hb5) (And.intro (own_on O4.out hb5) (below_next B4.out (Nat.le_refl _) hb5))))
    have S5 := Lib.hid hs5
    have D5 := Lib.hid (below_next D4.out (Nat.le_refl _) hb5)
    clear i5 hb5 hw5 kc kc4 hs5
    obtain ⟨h, hh⟩ : ∃ h, 18 + n = h := ⟨_, rfl⟩
    obtain ⟨h2, hh2⟩ : ∃ h2, 10 + n = h2 := ⟨_, rfl⟩
    have hhL : h ≤ L := by omega
    go_upto_region 6 with (at_builtin; refine wpList_app_grows w5 rfl (.tmp 31) (.tmp 32) rfl (some ⟨w4.heap.size, 0, none⟩) 4 4 recMark rfl I5.out.1 (fun e => by cases e) ⟨g4, 0, none⟩ 10 c4 (toldL num n) rfl I5.out.2.1 (by omega) (by omega) ?_; intro A6 c6 w6 ho6 hb6)
    obtain ⟨g6, rfl⟩ := own_ad ho6 (by omega)
    have hg6 : w5.heap.size ≤ g6 := (ho6.lt g6 rfl).1
    have O6 := Lib.hid (show w6.ownsRow w5.heap.size 5 1 (.slice (some ⟨g6, 0, none⟩) 14 c6) 14 (bvs (recMark ++ toldL num n)) from ho6)
    have P6 := Lib.hid (And.intro (own_on I5.out.2.2.1 hb6) (below_next I5.out.2.2.2 (Nat.le_refl _) hb6))
    have D6 := Lib.hid (below_next D5.out (Nat.le_refl _) hb6)
    have hap : Hid (Apart (.slice (some ⟨g4, 0, none⟩) 10 c4) (.slice (some ⟨g6, 0, none⟩) 14 c6)) := fun k h1 h2 => by
      have e1 : g4 = k := by injection h1
      have e2 : g6 = k := by injection h2
      have := S5.out
      omega
    have hsz : Hid (w3.heap.size ≤ w6.heap.size) := Nat.le_trans (Nat.le_trans hb34.out.size (by have := S5.out; omega)) hb6.size
    have J6 := Lib.hid (HX.out.in_.below P6.out.2)
    clear ho6 hb6 hg6
    have hcn := HX.out.cap
    have hsum : ofL (toldL num n ++ xs) = sumL num xs := by unfold sumL; rw [HX.out.in_.len]
    have HSUM := Lib.hid hsum
    have hhead : recMark ++ toldL num n ++ dg (sumL num xs) 4 = headL num xs := by unfold headL; rw [HX.out.in_.len]
    have HHEAD := Lib.hid hhead
    clear hsum hhead kc5 hg4
    obtain ⟨su, hsu⟩ : ∃ su, sumL num xs = su := ⟨_, rfl⟩
    rw [hsu] at C4 hwrap HSUM HHEAD
    clear hsu
    go_wp2_with (at_builtin; refine wpList_app_to w6 rfl (.tmp 35) (.tmp 36) rfl w3.heap.size (some ⟨g4, 0, none⟩) 10 c4 (toldL num n) rfl P6.out.1 A n c xs rfl J6.out HX.out.nil h2 hh2 (by omega) hsz.out ?_; intro A7 c7 w7 ho7 hn7)
    have B7 : Hid (Below w.heap.size w w7) := hn7.below P6.out.1 P6.out.2 H3.out.2.size P6.out.2.size
    have D7 : Hid (Below w2.heap.size w2 w7) := hn7.below P6.out.1 D6.out D3.out.size D6.out.size
    have O7 := Lib.hid (hn7.keep O6.out hap.out)
    have C7 := Lib.hid (of_any A7 h2 c7 (toldL num n ++ xs) w7 (In.of_own ho7) (bytes_append (toldL_lt _ _) HX.out.lt) (fun e => by have := own_nil ho7 e; have := own_cap ho7; omega) (own_cap ho7) (by omega))
    rw [HSUM.out] at C7
    clear ho7 hn7
    refine C7.out.mono ?_
    rintro e w8 ⟨rfl, hb8⟩
    have B8 := Lib.hid (below_next B7.out (Nat.le_refl _) hb8)
    have D8 := Lib.hid (below_next D7.out (Nat.le_refl _) hb8)
    have I8 := Lib.hid ((In.of_own O7.out).below hb8)
    clear hb8
    go_wp2_with fail
    refine (C4.out _ _ _ I8.out).mono ?_
    rintro e w9 ⟨A9, c9, rfl, ho9, hb9⟩
    rw [HHEAD.out] at ho9
    have O9 := Lib.hid (show w9.ownsRow w8.heap.size 5 1 (.slice A9 18 c9) 18 (bvs (headL num xs)) from ho9)
    have B9 := Lib.hid (below_next B8.out (Nat.le_refl _) hb9)
    have J9 := Lib.hid (HX.out.in_.below B9.out)
    have S9 : Hid (w8.heap.size ≤ w9.heap.size) := hb9.size
    have HB9 := Lib.hid hb9
    clear ho9 hb9
    go_wp2_with (at_builtin; refine wpList_app_to w9 rfl (.tmp 40) (.tmp 41) rfl w8.heap.size A9 18 c9 (headL num xs) rfl O9.out A n c xs rfl J9.out HX.out.nil h hh (by omega) S9.out ?_; intro A10 c10 w10 ho10 hn10)
    have b810 : Below w8.heap.size w8 w10 := hn10.below O9.out HB9.out (Nat.le_refl _) S9.out
    have B10 : Hid (Below w.heap.size w w10) := below_next B8.out (Nat.le_refl _) b810
    have I10 := Lib.hid (H2.out.1.below (below_next D8.out (Nat.le_refl _) b810))
    have J10 := Lib.hid (In.of_own ho10)
    have K10 := Lib.hid (I10.out.take hhL)
    rw [take_frame (by rw [HX.out.in_.len]; exact hh)] at K10
    clear ho10 hn10 b810
    refine (looseN (sameBytes_yes _ _ h _ _ _ _ K10.out J10.out (by omega))).mono ?_
    rintro e w11 ⟨rfl, hb11⟩
    have B11 := Lib.hid (below_next B10.out (Nat.le_refl _) hb11)
    have i11 := I10.out.below hb11
    clear hb11
    go_wp2_with fail
    go_loop [9] (fun i => ∃ j : Nat, h ≤ j ∧ j ≤ L ∧ i = .int .i64 (j : Int)) (fun i => L - (intOf i).toNat)
    case atStart => exact ⟨h, Nat.le_refl _, hhL, rfl⟩
    case round =>
      obtain ⟨j, hj, hjL, rfl⟩ := hrel
      by_cases hlt : j < L
      · obtain ⟨ad, x, rfl, hxx, hc1⟩ := i11.at_ hlt
        have hx0 : x = 0 := by
          have := rest_frame (num := num) (xs := xs) (h := h) (j := j) (by rw [HX.out.in_.len]; exact hh) hj (by rw [HFL.out]; exact hlt)
          rw [this] at hxx
          injection hxx with e
          exact e.symm
        subst hx0
        have hjn : (j : Int) < (L : Int) := by omega
        clear hxx
        go_wp2
        go_round
        case rel => exact ⟨j + 1, by omega, by omega, by go_num⟩
        case measure => simp [intOf]; omega
      · go_wp2_with fail
        refine (alive_any E _ (HE.out.below B11.out)).mono ?_
        rintro e w12 ⟨rfl, hb12⟩
        have B12 := Lib.hid (below_next B11.out (Nat.le_refl _) hb12)
        clear hb12
        go_wp2_with fail
        go_ret
        exact ⟨rfl, B12.out⟩

end Go.Proofs.YtfniddnfkciblaaDoor
