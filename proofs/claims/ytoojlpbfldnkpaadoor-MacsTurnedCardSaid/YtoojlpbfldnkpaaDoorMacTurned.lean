/-
  MacsTurned: a key of 64 bytes, each taken against 106: both blocks change their places.
-/
import Derived.Test.YtoojlpbfldnkpaaDoorMacLong
import Derived.Test.YtoojlpbfldnkpaaDoorLApp2
namespace Go.Proofs.YtoojlpbfldnkpaaDoor
open Go.RowKit

def xorL (xs : List Nat) (m : Nat) : List Nat := xs.map (· ^^^ m)
theorem xorL_length (xs : List Nat) (m : Nat) : (xorL xs m).length = xs.length := List.length_map ..
theorem xorL_lt {xs : List Nat} {m : Nat} (h : ∀ x ∈ xs, x < 256) (hm : m < 256) : ∀ x ∈ xorL xs m, x < 256 := by
  intro x hx
  obtain ⟨y, hy, rfl⟩ := List.mem_map.1 hx
  exact xor_byte (h y hy) hm
theorem xorL_snoc {xs : List Nat} {j x m : Nat} (h : xs[j]? = some x) : xorL (xs.take (j + 1)) m = xorL (xs.take j) m ++ [x ^^^ m] := by
  rw [take_snoc_of h, xorL, List.map_append]; rfl
theorem fil_xor (xs : List Nat) (a b c : Nat) (h : xs.length = 64) (hc : a ^^^ b = c) : fil (xorL xs a) b = xorL xs c := by
  apply List.ext_getElem?
  intro i
  by_cases hi : i < 64
  · rw [fil, List.getElem?_map, List.getElem?_range hi, xorL, xorL]
    show some ((xs.map _).getD i 0 ^^^ b) = _
    rw [List.getD_eq_getElem?_getD, List.getElem?_map, List.getElem?_map, List.getElem?_eq_getElem (by omega)]
    simp [Nat.xor_assoc, hc]
  · rw [List.getElem?_eq_none (by rw [fil_length]; omega), List.getElem?_eq_none (by rw [xorL_length]; omega)]
theorem mac_turned (key ys : List Nat) (h : key.length = 64) : mac (xorL key 106) ys = sha (xorL key 54 ++ sha (xorL key 92 ++ ys)) := by
  have hs : shortL (xorL key 106) = xorL key 106 := by unfold shortL; rw [if_pos (by rw [xorL_length]; omega)]
  rw [mac, hs, fil_xor key 106 92 54 h (by decide), fil_xor key 106 54 92 h (by decide)]

/-- Three rows of the call's own, no two of which have a block in common. -/
structure Rows3 (base : Nat) (w : World) (v1 v2 v3 : Value) (n1 n2 n3 : Nat) (x1 x2 x3 : List Nat) : Prop where
  o1 : w.ownsRow base 5 1 v1 n1 (bvs x1)
  o2 : w.ownsRow base 5 1 v2 n2 (bvs x2)
  o3 : w.ownsRow base 5 1 v3 n3 (bvs x3)
  a12 : Apart v1 v2
  a13 : Apart v1 v3
  a23 : Apart v2 v3
section
variable {base : Nat} {w w' : World} {v1 v2 v3 v1' v2' v3' : Value} {n1 n2 n3 m : Nat} {x1 x2 x3 y : List Nat}
theorem Rows3.alloc (h : Rows3 base w v1 v2 v3 n1 n2 n3 x1 x2 x3) (o : Obj) : Rows3 base (w.alloc o) v1 v2 v3 n1 n2 n3 x1 x2 x3 := ⟨h.o1.alloc o, h.o2.alloc o, h.o3.alloc o, h.a12, h.a13, h.a23⟩
theorem Rows3.next1 (h : Rows3 base w v1 v2 v3 n1 n2 n3 x1 x2 x3) (ho : w'.ownsRow base 5 1 v1' m (bvs y)) (hn : Next w w' v1 v1') : Rows3 base w' v1' v2 v3 m n2 n3 y x2 x3 :=
  ⟨ho, hn.keep h.o2 h.a12, hn.keep h.o3 h.a13, hn.apart h.o2 h.a12, hn.apart h.o3 h.a13, h.a23⟩
theorem Rows3.next2 (h : Rows3 base w v1 v2 v3 n1 n2 n3 x1 x2 x3) (ho : w'.ownsRow base 5 1 v2' m (bvs y)) (hn : Next w w' v2 v2') : Rows3 base w' v1 v2' v3 n1 m n3 x1 y x3 :=
  ⟨hn.keep h.o1 h.a12.symm, ho, hn.keep h.o3 h.a23, (hn.apart h.o1 h.a12.symm).symm, h.a13, hn.apart h.o3 h.a23⟩
theorem Rows3.next3 (h : Rows3 base w v1 v2 v3 n1 n2 n3 x1 x2 x3) (ho : w'.ownsRow base 5 1 v3' m (bvs y)) (hn : Next w w' v3 v3') : Rows3 base w' v1 v2 v3' n1 n2 m x1 x2 y :=
  ⟨hn.keep h.o1 h.a13.symm, hn.keep h.o2 h.a23.symm, ho, h.a12, (hn.apart h.o1 h.a13.symm).symm, (hn.apart h.o2 h.a23.symm).symm⟩
end

theorem in_one (W : World) (x : Nat) : In (W.alloc (.cells #[.int .u8 (x : Int)] 5)) (some ⟨W.heap.size, 0, none⟩) 1 [x] := In.new W [x]

/-- Behind an append of one byte that was laid for it. -/
theorem next_step {base : Nat} {w w' : World} {v v' : Value} {n B : Nat} {xs : List Value} {o : Obj} {w0 : World} (h : Next (w.alloc o) w' v v') (hv : w.ownsRow base 5 1 v n xs) (hb : Below B w0 w) (hB : B ≤ base) (hs : B ≤ w.heap.size) : Below B w0 w' :=
  h.below (hv.alloc o) (hb.alloc hs o) hB (by rw [World.size_alloc]; omega)
theorem BArr.next {base : Nat} {w w' : World} {v v' : Value} {n g : Nat} {xs : List Value} {o : Obj} {T : TypeId} {ys : List Nat} (hg : BArr w g T ys) (h : Next (w.alloc o) w' v v') (hv : w.ownsRow base 5 1 v n xs) (hB : g < base) : BArr w' g T ys := by
  have h1 := hg.alloc o
  refine (h.grown.block g h1.lt fun e => ?_).trans h1
  have := (hv.lt g e.symm).1
  omega

theorem BArr.byte {w : World} {g i x : Nat} {T : TypeId} {xs : List Nat} (h : BArr w g T xs) (hx : xs[i]? = some x) : w.cell? ⟨g, i, none⟩ = some (.int .u8 (x : Int)) := by
  rw [cell_of_row _ g i _ T (0, 0) h, List.getElem?_toArray, bvs_get, hx]; rfl

/-- What the last statement starts from. -/
structure TSt (base : Nat) (w : World) (v1 v2 : Value) (x1 x2 s : List Nat) (g : Nat) (W : World) : Prop where
  o1 : W.ownsRow base 5 1 v1 64 (bvs x1)
  o2 : W.ownsRow base 5 1 v2 64 (bvs x2)
  a : Apart v1 v2
  s : In W (some ⟨g, 0, none⟩) 32 s
  below : Below w.heap.size w W
  le : base ≤ W.heap.size
theorem TSt.on {base : Nat} {w W W' : World} {v1 v2 : Value} {x1 x2 s : List Nat} {g : Nat} (h : TSt base w v1 v2 x1 x2 s g W) (hb : Below W.heap.size W W') : TSt base w v1 v2 x1 x2 s g W' :=
  ⟨own_on h.o1 hb, own_on h.o2 hb, h.a, h.s.below hb, below_on h.below (Nat.le_refl _) hb, Nat.le_trans h.le hb.size⟩
theorem TSt.alloc {base : Nat} {w W : World} {v1 v2 : Value} {x1 x2 s : List Nat} {g : Nat} (h : TSt base w v1 v2 x1 x2 s g W) (o : Obj) : TSt base w v1 v2 x1 x2 s g (W.alloc o) := h.on (below_alloc W o)

set_option maxRecDepth 100000 in
set_option maxHeartbeats 1000000 in
theorem turned_long (key : List Nat) (B : Option Addr) (m d : Nat) (w : World) (hk : Knows w) (hs : Starts w) (h : 10000 < m) :
    Calls Tryd.prog 5 #[.agg (bvs key).toArray, .slice B m d] w fun e w' => e = .returned (.bool true) ∧ Below w.heap.size w w' := by
  have hb := below_alloc w (.cells (bvs key).toArray 58)
  have C := Lib.hid (known_any _ (hk.below hb) (hs.below hb))
  have HB := Lib.hid hb
  clear hb
  have hi : (10000 : Int) < (m : Int) := by omega
  go_enter Tryd.func5, Tryd.ntmps5
  go_wp2_with fail
  refine C.out.mono ?_
  rintro e w1 ⟨rfl, hb1⟩
  go_wp2
  go_ret
  exact ⟨rfl, below_on HB.out (Nat.le_refl _) hb1⟩

set_option maxRecDepth 100000 in
set_option maxHeartbeats 2000000 in
theorem turned_short (key : List Nat) (B : Option Addr) (m d : Nat) (ys : List Nat) (w : World) (h64 : key.length = 64) (lk : ∀ x ∈ key, x < 256) (hy : Came w B m d ys) (hk : Knows w) (hs : Starts w) (hm : m ≤ 10000) :
    Calls Tryd.prog 5 #[.agg (bvs key).toArray, .slice B m d] w fun e w' => e = .returned (.bool true) ∧ Below w.heap.size w w' := by
  have f1 := BArr.new w 58 key
  have b1 := below_alloc w (.cells (bvs key).toArray 58)
  have z1 : (w.alloc (.cells (bvs key).toArray 58)).heap.size = w.heap.size + 1 := World.size_alloc _ _
  have HK := Lib.hid (And.intro h64 lk)
  have HY := Lib.hid hy
  have HF := Lib.hid (And.intro f1 (And.intro b1 z1))
  clear f1 b1 z1 h64 lk hy
  have hi : decide ((10000 : Int) < (m : Int)) = false := by simp; omega
  go_enter Tryd.func5, Tryd.ntmps5
  go_wp2
  go_loopw [5, 6, 7, 8] (fun t n o i wr => ∃ (j : Nat) (A1 A2 A3 : Option Addr) (c1 c2 c3 : Nat), j ≤ 64 ∧ i = .int .i64 (j : Int) ∧ t = .slice A1 j c1 ∧ n = .slice A2 j c2 ∧ o = .slice A3 j c3 ∧
    Rows3 (w.heap.size + 1) wr (.slice A1 j c1) (.slice A2 j c2) (.slice A3 j c3) j j j (xorL (key.take j) 106) (xorL (key.take j) 54) (xorL (key.take j) 92) ∧ BArr wr w.heap.size 58 key ∧ Below w.heap.size w wr ∧ w.heap.size + 1 ≤ wr.heap.size) (fun _ _ _ i _ => 64 - (intOf i).toNat)
  case atStart =>
    exact ⟨0, none, none, none, 0, 0, 0, by omega, rfl, rfl, rfl, rfl, ⟨World.ownsRow_nil _ _ _ _, World.ownsRow_nil _ _ _ _, World.ownsRow_nil _ _ _ _, apart_nil _, apart_nil _, apart_nil _⟩, HF.out.1, HF.out.2.1, Nat.le_of_eq HF.out.2.2.symm⟩
  case round =>
    clear HF
    obtain ⟨j, A1, A2, A3, c1, c2, c3, hj, rfl, rfl, rfl, rfl, R, f, bel, hz⟩ := hrel
    by_cases hlt : j < 64
    · obtain ⟨x, hx⟩ : ∃ x, key[j]? = some x := ⟨_, List.getElem?_eq_getElem (by rw [HK.out.1]; exact hlt)⟩
      have bx : x < 256 := HK.out.2 x (List.mem_of_getElem? hx)
      have hcell := f.byte hx
      have HXJ := Lib.hid hx
      obtain ⟨y1, hy1⟩ : ∃ y, x ^^^ 106 = y := ⟨_, rfl⟩
      obtain ⟨y2, hy2⟩ : ∃ y, x ^^^ 54 = y := ⟨_, rfl⟩
      obtain ⟨y3, hy3⟩ : ∃ y, x ^^^ 92 = y := ⟨_, rfl⟩
      have q1 : bits .xor .u8 (x : Int) 106 = (y1 : Int) := by rw [← hy1]; exact u8_xor_nat x 106 bx (by omega)
      have q2 : bits .xor .u8 (x : Int) 54 = (y2 : Int) := by rw [← hy2]; exact u8_xor_nat x 54 bx (by omega)
      have q3 : bits .xor .u8 (x : Int) 92 = (y3 : Int) := by rw [← hy3]; exact u8_xor_nat x 92 bx (by omega)
      have e1 := xorL_snoc (m := 106) hx
      have e2 := xorL_snoc (m := 54) hx
      have e3 := xorL_snoc (m := 92) hx
      rw [hy1] at e1
      rw [hy2] at e2
      rw [hy3] at e3
      have HE := Lib.hid (And.intro e1 (And.intro e2 e3))
      have HR := Lib.hid R
      have HB := Lib.hid (And.intro f bel)
      clear hx hy1 hy2 hy3 e1 e2 e3 R f bel
      go_upto_region 8 with (at_builtin; refine wpList_app_at _ rfl (.tmp 18) (.tmp 23) rfl (w.heap.size + 1) A1 j c1 _ rfl (HR.out.o1.alloc _) (some ⟨wr.heap.size, 0, none⟩) 1 1 [y1] rfl (in_one wr y1) (fun h => by cases h) (by omega) (by simp; omega) ?_; intro A4 c4 w4 ho4 hn4)
      have R4 := (HR.out.alloc _).next1 ho4 hn4
      have f4 := HB.out.1.next hn4 HR.out.o1 (by omega)
      have b4 := next_step hn4 HR.out.o1 HB.out.2 (by omega) (by omega)
      have z4 : w.heap.size + 1 ≤ w4.heap.size := by have := hn4.grown.size; simp at this; omega
      have hc4 := f4.byte HXJ.out
      have HR4 := Lib.hid R4
      have HB4 := Lib.hid (And.intro f4 b4)
      clear hcell ho4 hn4 R4 f4 b4
      go_upto_region 9 with (at_builtin; refine wpList_app_at _ rfl (.tmp 25) (.tmp 30) rfl (w.heap.size + 1) A2 j c2 _ rfl (HR4.out.o2.alloc _) (some ⟨w4.heap.size, 0, none⟩) 1 1 [y2] rfl (in_one w4 y2) (fun h => by cases h) (by omega) (by simp; omega) ?_; intro A5 c5 w5 ho5 hn5)
      have R5 := (HR4.out.alloc _).next2 ho5 hn5
      have f5 := HB4.out.1.next hn5 HR4.out.o2 (by omega)
      have b5 := next_step hn5 HR4.out.o2 HB4.out.2 (by omega) (by omega)
      have z5 : w.heap.size + 1 ≤ w5.heap.size := by have := hn5.grown.size; simp at this; omega
      have hc5 := f5.byte HXJ.out
      have HR5 := Lib.hid R5
      have HB5 := Lib.hid (And.intro f5 b5)
      clear hc4 ho5 hn5 R5 f5 b5
      go_upto_region 6 with (at_builtin; refine wpList_app_at _ rfl (.tmp 32) (.tmp 37) rfl (w.heap.size + 1) A3 j c3 _ rfl (HR5.out.o3.alloc _) (some ⟨w5.heap.size, 0, none⟩) 1 1 [y3] rfl (in_one w5 y3) (fun h => by cases h) (by omega) (by simp; omega) ?_; intro A6 c6 w6 ho6 hn6)
      have R6 := (HR5.out.alloc _).next3 ho6 hn6
      have f6 := HB5.out.1.next hn6 HR5.out.o3 (by omega)
      have b6 := next_step hn6 HR5.out.o3 HB5.out.2 (by omega) (by omega)
      have z6 : w.heap.size + 1 ≤ w6.heap.size := by have := hn6.grown.size; simp at this; omega
      rw [← HE.out.1, ← HE.out.2.1, ← HE.out.2.2] at R6
      have HR6 := Lib.hid (And.intro R6 (And.intro f6 b6))
      clear hc5 ho6 hn6 R6 f6 b6 q1 q2 q3
      go_wp2
      go_roundw
      case rel => exact ⟨j + 1, A4, A5, A6, c4, c5, c6, by omega, by go_num, rfl, rfl, rfl, HR6.out.1, HR6.out.2.1, HR6.out.2.2, z6⟩
      case measure => simp [intOf]; omega
    · obtain rfl : j = 64 := by omega
      rw [List.take_of_length_le (by rw [HK.out.1]; omega)] at R
      have HR := Lib.hid R
      have HB := Lib.hid bel
      clear R f bel
      obtain ⟨x1, hx1⟩ : ∃ x, xorL key 106 = x := ⟨_, rfl⟩
      obtain ⟨x2, hx2⟩ : ∃ x, xorL key 54 = x := ⟨_, rfl⟩
      obtain ⟨x3, hx3⟩ : ∃ x, xorL key 92 = x := ⟨_, rfl⟩
      rw [hx1, hx2, hx3] at HR
      have l1 : x1.length = 64 := by rw [← hx1, xorL_length, HK.out.1]
      have l2 : x2.length = 64 := by rw [← hx2, xorL_length, HK.out.1]
      have l3 : x3.length = 64 := by rw [← hx3, xorL_length, HK.out.1]
      have m1 : ∀ x ∈ x1, x < 256 := by rw [← hx1]; exact xorL_lt HK.out.2 (by omega)
      have m2 : ∀ x ∈ x2, x < 256 := by rw [← hx2]; exact xorL_lt HK.out.2 (by omega)
      have m3 : ∀ x ∈ x3, x < 256 := by rw [← hx3]; exact xorL_lt HK.out.2 (by omega)
      have hmac := mac_turned key ys HK.out.1
      rw [hx1, hx2, hx3] at hmac
      have HM := Lib.hid (And.intro hmac (And.intro l1 (And.intro l2 (And.intro l3 (And.intro m1 (And.intro m2 m3))))))
      clear hx1 hx2 hx3 l1 l2 l3 m1 m2 m3 hmac
      have hyw := HY.out.in_.below HB.out
      have hyn := HY.out.nil
      have HN := Lib.hid hyn
      clear hyn
      go_wp2_with (at_builtin; refine wpList_app_at _ rfl (.tmp 39) (.tmp 40) rfl (w.heap.size + 1) A3 64 c3 x3 rfl HR.out.o3 B m d ys rfl hyw HN.out (by omega) hz ?_; intro A4 c4 w4 ho4 hn4)
      have R4 := HR.out.next3 ho4 hn4
      have b4 := hn4.below HR.out.o3 HB.out (by omega) (by omega)
      have z4 : w.heap.size + 1 ≤ w4.heap.size := by have := hn4.grown.size; omega
      have C1 := Lib.hid (of_any A4 (64 + m) c4 (x3 ++ ys) w4 (In.of_own ho4) (bytes_append HM.out.2.2.2.2.2.2 HY.out.lt) (own_cap ho4) (hk.below b4) (hs.below b4) (by omega))
      obtain ⟨s, hs0⟩ : ∃ s, sha (x3 ++ ys) = s := ⟨_, rfl⟩
      have hl : s.length = 32 := by rw [← hs0]; exact sha_length _
      have ls : ∀ x ∈ s, x < 256 := by rw [← hs0]; exact sha_lt _
      rw [hs0] at C1
      have HS := Lib.hid (And.intro hs0 (And.intro hl ls))
      have H4 := Lib.hid (And.intro R4 (And.intro b4 z4))
      clear hs0 hl ls R4 b4 z4 ho4 hn4 hyw HR HB
      refine C1.out.mono ?_
      rintro e w5 ⟨rfl, hb5⟩
      go_upto_region 11 with ((with_reducible refine wpList_store_new w5 _ ?_ rfl (.tmp 9) (.tmp 42) rfl rfl s HS.out.2.1 rfl ?_); · simp)
      obtain ⟨w6, hw6⟩ : ∃ w6, w6 = w5.alloc (.cells (bvs s).toArray 54) := ⟨_, rfl⟩
      have hi6 : In w6 (some ⟨w5.heap.size, 0, none⟩) 32 s := by rw [hw6, ← HS.out.2.1]; exact In.new' w5 s _
      have hb6 : Below w4.heap.size w4 w6 := by rw [hw6]; exact below_on hb5 (Nat.le_refl _) (below_alloc w5 _)
      obtain ⟨g, hg⟩ : ∃ g, w5.heap.size = g := ⟨_, rfl⟩
      rw [← hw6, hg]
      rw [hg] at hi6
      have T6 : TSt (w.heap.size + 1) w (.slice A1 64 c1) (.slice A2 64 c2) x1 x2 s g w6 := ⟨own_on H4.out.1.o1 hb6, own_on H4.out.1.o2 hb6, H4.out.1.a12, hi6, below_on H4.out.2.1 (Nat.le_refl _) hb6, Nat.le_trans H4.out.2.2 hb6.size⟩
      clear hw6 hi6 hb6 hg hb5 C1 H4
      have T6d : TSt (w.heap.size + 1) w (.slice A1 64 c1) (.slice A2 64 c2) x1 x2 s g w6.drew := ⟨T6.o1, T6.o2, T6.a, ⟨T6.s.len, T6.s.rd⟩, ⟨T6.below.os, T6.below.tape, T6.below.output, T6.below.size, T6.below.block⟩, T6.le⟩
      have CK := Lib.hid ((known_any w6.drew (hk.below T6d.below) (hs.below T6d.below)).mono (R' := fun e w' => e = .returned (.bool true) ∧ Hid (TSt (w.heap.size + 1) w (.slice A1 64 c1) (.slice A2 64 c2) x1 x2 s g w')) fun e w' h => ⟨h.1, Lib.hid (T6d.on h.2)⟩)
      obtain ⟨M, hM⟩ : ∃ M, mac x1 ys = M := ⟨_, rfl⟩
      have hM2 : sha (x2 ++ s) = M := by rw [← hM, HM.out.1, HS.out.1]
      have hMl : M.length = 32 := by rw [← hM]; exact mac_length _ _
      have CM := Lib.hid (fun (W : World) (b : Nat) (ho : W.ownsRow (w.heap.size + 1) 5 1 (.slice A1 64 c1) 64 (bvs x1)) (hW : Below w.heap.size w W) (hc : W.cell? ⟨b, 0, none⟩ = some (.slice B m d)) =>
        (macOf_any A1 64 c1 x1 (some ⟨b, 0, none⟩) 1 1 [ys] W ⟨In.of_own ho, HM.out.2.2.2.2.1, own_nil ho, own_cap ho⟩ (rows_one' hc (HY.out.below hW) (by omega)) (hk.below hW) (hs.below hW) (by omega) (by simp [tot]; rw [HY.out.in_.len]; omega) (by omega)).mono (R' := fun e w' => e = .returned (sv M) ∧ Hid (Below W.heap.size W w')) fun e w' h => ⟨by rw [h.1]; simp [hM], Lib.hid h.2⟩)
      have CO := Lib.hid (fun (W : World) (A : Option Addr) (c : Nat) (hi : In W A (64 + 32) (x2 ++ s)) (hc : 64 + 32 ≤ c) (hW : Below w.heap.size w W) =>
        (of_any A (64 + 32) c (x2 ++ s) W hi (bytes_append HM.out.2.2.2.2.2.1 HS.out.2.2) hc (hk.below hW) (hs.below hW) (by omega)).mono (R' := fun e w' => e = .returned (sv M) ∧ Hid (Below w.heap.size w w')) fun e w' h => ⟨by rw [h.1, hM2], Lib.hid (below_on hW (Nat.le_refl _) h.2)⟩)
      have q1 := run_eql_sum M M hMl hMl
      rw [decide_eq_true rfl] at q1
      have q2 := run_guard_eql
      clear hM hM2 hMl T6 T6d
      go_wp2_with fail
      go_region_law (first
        | (go_simp; go_at_call 25; refine CK.out.mono ?_; rintro e w7 ⟨rfl, T7⟩)
        | (go_simp; go_at_call 22; refine (CM.out _ _ ?_ ?_ ?_).mono ?_;
            (first
              | exact T7.out.o1.alloc _
              | exact N8.keep (T7.out.o1.alloc _) T7.out.a.symm
              | exact (N8.keep T7.out.o1 T7.out.a.symm).alloc _);
            (first
              | exact (T7.out.alloc _).below
              | exact N8.below (T7.out.o2.alloc _) (T7.out.alloc _).below (Nat.le_succ _) (T7.out.alloc _).below.size
              | exact below_on (N8.below T7.out.o2 T7.out.below (Nat.le_succ _) T7.out.below.size) (Nat.le_refl _) (below_alloc _ _));
            (first
              | exact cell_new1 _ _ _
              | exact N8.cell (cell_new1 _ _ _) (fun e => by have := (T7.out.o2.lt _ e.symm).2; simp at this));
            rintro e w9 ⟨rfl, hb9⟩)
        | (refine step_app_at (by rfl) (.tmp 49) (.tmp 50) (by rfl) (w.heap.size + 1) A2 64 c2 x2 (by rfl)
            (by first | exact ((T7.out.alloc _).on hb9.out).o2 | exact (T7.out.alloc _).o2 | exact T7.out.o2) (some ⟨g, 0, none⟩) 32 32 s (by rfl)
            (by first | exact ((T7.out.alloc _).on hb9.out).s | exact (T7.out.alloc _).s | exact T7.out.s) (fun h => by cases h) (by omega)
            (by first | exact ((T7.out.alloc _).on hb9.out).le | exact (T7.out.alloc _).le | exact T7.out.le) ?_; intro A8 c8 w8 ho8 N8)
        | (go_simp; go_at_call 26; refine (CO.out _ _ _ ?_ ?_ ?_).mono ?_;
            (first
              | exact In.of_own ho8
              | exact (In.of_own ho8).below hb9.out
              | exact ((In.of_own ho8).below (below_alloc _ _)).below hb9.out);
            exact own_cap ho8;
            (first
              | exact N8.below ((T7.out.alloc _).on hb9.out).o2 ((T7.out.alloc _).on hb9.out).below (Nat.le_succ _) ((T7.out.alloc _).on hb9.out).below.size
              | exact below_on (N8.below (T7.out.o2.alloc _) (T7.out.alloc _).below (Nat.le_succ _) (T7.out.alloc _).below.size) (Nat.le_refl _) hb9.out
              | exact below_on (below_on (N8.below T7.out.o2 T7.out.below (Nat.le_succ _) T7.out.below.size) (Nat.le_refl _) (below_alloc _ _)) (Nat.le_refl _) hb9.out);
            rintro e w10 ⟨rfl, hb10⟩))
      all_goals
        go_wp2
        go_ret
        exact ⟨rfl, hb10.out⟩

theorem macsTurned_law (w : World) (hk : Knows w) (hs : Starts w) {B : Option Addr} {m d : Nat} {key ys : List Nat} (h64 : key.length = 64) (lk : ∀ x ∈ key, x < 256) (hy : Came w B m d ys) :
    Calls Tryd.prog 5 #[.agg (bvs key).toArray, .slice B m d] w fun e w' => e = .returned (.bool true) ∧ Below w.heap.size w w' := by
  by_cases h : 10000 < m
  · exact turned_long key B m d w hk hs h
  · exact turned_short key B m d ys w h64 lk hy hk hs (by omega)

end Go.Proofs.YtoojlpbfldnkpaaDoor
