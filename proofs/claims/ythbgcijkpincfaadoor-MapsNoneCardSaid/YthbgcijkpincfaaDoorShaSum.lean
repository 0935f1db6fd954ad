/-
  shas: Sum, Of.
-/
import Derived.Test.YthbgcijkpincfaaDoorShaNew
namespace Go.Proofs.YthbgcijkpincfaaDoor
open Go.RowKit

/-- SHA-256 of bytes. -/
def sha (xs : List Nat) : List Nat := toldL (eaten h0 (xs ++ endL xs.length) ((xs ++ endL xs.length).length / 64))
theorem sha_length (xs : List Nat) : (sha xs).length = 32 := by rw [sha, toldL_length, eaten_length _ _ h0_length]
theorem sha_lt (xs : List Nat) : ∀ x ∈ sha xs, x < 256 := toldL_lt _
theorem endL_lt (n : Nat) : ∀ x ∈ endL n, x < 256 := by
  intro x hx
  rw [endL, List.mem_cons, List.mem_append] at hx
  rcases hx with rfl | hx | hx
  · omega
  · rw [List.eq_of_mem_replicate hx]; omega
  · exact dg_lt _ _ x hx
theorem endL_length (n : Nat) : (endL n).length = noughts n + 9 := by rw [endL, List.length_cons, List.length_append, List.length_replicate, dg_length]
theorem noughts_lt (n : Nat) : noughts n < 64 := by rw [noughts]; omega

theorem sizeRun : (Tryd.prog.info? 83).map (·.size) = some 74 := by kernel_rfl
theorem zeroRun_size : zcRun.size = 74 := by kernel_rfl
theorem runCells_oneCell (S blk : List Nat) (n : Nat) : ∀ v ∈ runCells S blk n, v.oneCell' = true := by
  intro v hv
  rw [runCells, List.mem_cons, List.mem_append, List.mem_append, List.mem_singleton] at hv
  rcases hv with rfl | hv | hv | rfl
  · rfl
  · exact uvs_oneCell _ v hv
  · exact bvs_oneCell _ v hv
  · rfl
theorem wpList_load_run {ops : Array Oper} {rest : List Oper} {o : Oper} {a : Act} {w : World} {Q : Exit → Act → World → Prop} (hgd : o.guard = none) (x : Operand) (ho : o.op = .load 83 x)
    {g n : Nat} {S blk : List Nat} (hr : RunAt w g S blk n) (hx : a.eval x = .pointer (some ⟨g, 0, none⟩))
    (h : wpList Tryd.prog ops Q rest (a.put o.dst (.agg (runCells S blk n).toArray)) w) : wpList Tryd.prog ops Q (o :: rest) a w :=
  wpList_load_row hgd 83 x ho g hx 83 (runCells S blk n).toArray (0, 0) _ hr.heap Tryd.underlying83 rfl (by rw [List.size_toArray, runCells_length hr.s8 hr.b64]; exact sizeRun) h
theorem wpList_store_run {ops : Array Oper} {rest : List Oper} {o : Oper} {a : Act} {w : World} {Q : Exit → Act → World → Prop} (hgd : o.guard = none) (x y : Operand) (ho : o.op = .store 83 x y)
    (g : Nat) {n : Nat} {S blk : List Nat} (h8 : S.length = 8) (h64 : blk.length = 64) (hx : a.eval x = .pointer (some ⟨g, 0, none⟩)) (hy : a.eval y = .agg (runCells S blk n).toArray)
    (hg : w.heap[g]? = some (.cells zcRun 83 (0, 0)))
    (h : ∀ w', RunAt w' g S blk n → Only g w w' → w'.heap.size = w.heap.size → wpList Tryd.prog ops Q rest (a.put o.dst undef) w') : wpList Tryd.prog ops Q (o :: rest) a w :=
  wpList_store_row hgd 83 x y ho g (runCells S blk n).toArray hx hy 83 _ hg (by rw [List.size_toArray, runCells_length h8 h64]; exact sizeRun) (by rw [zeroRun_size, List.size_toArray, runCells_length h8 h64]) (all_oneCell_toArray (runCells_oneCell S blk n))
    (h _ ⟨h8, h64, setRow_heap w g _ _ _ (0, 0) hg⟩ ((Only.refl g w).setRow _) (size_setRow _ _ _))

theorem wpList_load8_mid {ops : Array Oper} {rest : List Oper} {o : Oper} {a : Act} {w : World} {Q : Exit → Act → World → Prop} (hgd : o.guard = none) (x : Operand) (ho : o.op = .load 79 x)
    (g k : Nat) (hx : a.eval x = .pointer (some ⟨g, k, none⟩)) (xs : List Nat) (hl : Hid (xs.length = 8)) (hc : w.rangeAt g k (uvs xs))
    (h : wpList Tryd.prog ops Q rest (a.put o.dst (.agg (uvs xs).toArray)) w) : wpList Tryd.prog ops Q (o :: rest) a w :=
  wpList_load_mid hgd 79 x ho g k hx (uvs xs) _ hc Tryd.underlying79 rfl (by rw [uvs_length, hl.out]; exact info8) h
theorem zero72_size : zc72.size = 72 := by kernel_rfl
theorem wpList_store_72z {ops : Array Oper} {rest : List Oper} {o : Oper} {a : Act} {w : World} {Q : Exit → Act → World → Prop} (hgd : o.guard = none) (x y : Operand) (ho : o.op = .store 85 x y)
    (g : Nat) {ys : List Nat} (h72 : ys.length = 72) (hx : a.eval x = .pointer (some ⟨g, 0, none⟩)) (hy : a.eval y = .agg (bvs ys).toArray)
    (hg : w.heap[g]? = some (.cells zc72 85 (0, 0)))
    (h : ∀ w', BArr w' g 85 ys → Only g w w' → w'.heap.size = w.heap.size → wpList Tryd.prog ops Q rest (a.put o.dst undef) w') : wpList Tryd.prog ops Q (o :: rest) a w :=
  wpList_store_row hgd 85 x y ho g (bvs ys).toArray hx hy 85 _ hg (by rw [List.size_toArray, bvs_length, h72]; exact size72) (by rw [zero72_size, List.size_toArray, bvs_length, h72]) (all_oneCell_toArray (bvs_oneCell ys))
    (h _ (setRow_heap w g _ _ _ (0, 0) hg) ((Only.refl g w).setRow _) (size_setRow _ _ _))

set_option maxRecDepth 100000 in
set_option maxHeartbeats 1000000 in
theorem sum_any (g : Nat) (xs blk : List Nat) (w : World) (hr : Ran w g xs blk) (hk : Knows w) (hn : xs.length ≤ 900000000) :
    Calls Tryd.prog 41 #[.pointer (some ⟨g, 0, none⟩)] w fun e w' => e = .returned (sv (sha xs)) ∧ Below w.heap.size w w' := by
  obtain ⟨Z, hZ⟩ : ∃ Z : Array Value, (bvs zero32).toArray = Z := ⟨_, rfl⟩
  have hm : (w.alloc (.cells Z 23)).cell? ⟨g, 0, none⟩ = some (.bool true) := (hr.at_.below (below_alloc w _)).made
  have e0 : (bvs zero32).toArray = #[.int .u8 0, .int .u8 0, .int .u8 0, .int .u8 0, .int .u8 0, .int .u8 0, .int .u8 0, .int .u8 0, .int .u8 0, .int .u8 0, .int .u8 0, .int .u8 0, .int .u8 0, .int .u8 0, .int .u8 0, .int .u8 0, .int .u8 0, .int .u8 0, .int .u8 0, .int .u8 0, .int .u8 0, .int .u8 0, .int .u8 0, .int .u8 0, .int .u8 0, .int .u8 0, .int .u8 0, .int .u8 0, .int .u8 0, .int .u8 0, .int .u8 0, .int .u8 0] := rfl
  rw [← hZ] at hm
  have f1 := BArr.new w 23 zero32
  have hr1 := hr.at_.below (below_alloc w (.cells (bvs zero32).toArray 23))
  have bel1 := below_alloc w (.cells (bvs zero32).toArray 23)
  rw [e0] at f1 hm hr1 bel1
  clear e0 hZ Z
  have F1 := Lib.hid f1
  have HR1 := Lib.hid hr1
  have BEL1 := Lib.hid bel1
  clear f1 hr1 bel1
  go_enter Tryd.func41, Tryd.ntmps41
  go_wp2_with fail
  refine (isThere_yes g _ hm).mono ?_
  rintro e w1 ⟨rfl, rfl⟩
  clear hm
  obtain ⟨w1, hw1⟩ : ∃ w1, w1 = w.alloc (.cells #[.int .u8 0, .int .u8 0, .int .u8 0, .int .u8 0, .int .u8 0, .int .u8 0, .int .u8 0, .int .u8 0, .int .u8 0, .int .u8 0, .int .u8 0, .int .u8 0, .int .u8 0, .int .u8 0, .int .u8 0, .int .u8 0, .int .u8 0, .int .u8 0, .int .u8 0, .int .u8 0, .int .u8 0, .int .u8 0, .int .u8 0, .int .u8 0, .int .u8 0, .int .u8 0, .int .u8 0, .int .u8 0, .int .u8 0, .int .u8 0, .int .u8 0, .int .u8 0] 23) := ⟨_, rfl⟩
  have hz1 : w1.heap.size = w.heap.size + 1 := by rw [hw1, World.size_alloc]
  rw [← hw1] at F1 HR1 BEL1 ⊢
  clear hw1
  have hr1 := HR1.out
  have HZ1 := Lib.hid hz1
  clear hz1
  go_wp2_with (first
    | (with_reducible refine wpList_load_run rfl (.tmp 11) rfl hr1 rfl ?_)
    | (with_reducible refine wpList_store_run rfl (.tmp 3) (.tmp 12) rfl w1.heap.size hr1.s8 hr1.b64 rfl rfl ?_ ?_))
  · first
    | exact World.alloc_heap_new w1 _
    | exact (World.alloc_heap_new w1 _).trans (by kernel_rfl)
  intro w2 hr2 ho2 hs2
  obtain ⟨G, hG⟩ : ∃ G, w1.heap.size = G := ⟨_, rfl⟩
  rw [hG] at hr2 ho2 hs2 ⊢
  have hgG : g < G := hG ▸ hr1.lt
  have hBG : w.heap.size + 1 = G := by rw [← hG]; exact HZ1.out.symm
  have bel2 : Below w.heap.size w w2 := Only.below (BEL1.out.alloc BEL1.out.size _) (by omega) (Nat.le_refl _) ho2
  have hrg2 : RunAt w2 g (eaten h0 xs (xs.length / 64)) blk xs.length := ⟨hr1.s8, hr1.b64, ho2.heap (by omega) (hr1.below (below_alloc w1 _)).heap⟩
  have f2 : BArr w2 w.heap.size 23 zero32 := ho2.heap (by omega) (F1.out.alloc _)
  have ran2 : Ran w2 G xs blk := ⟨hr2, hr.lt, hr.rest⟩
  have num2 := hrg2.num
  clear hr1 HR1 F1 BEL1 hr2 hrg2 ho2
  have C1 := Lib.hid (ending_any xs.length w2 (by omega))
  obtain ⟨z9, hz9⟩ : ∃ z9, noughts xs.length + 9 = z9 := ⟨_, rfl⟩
  rw [hz9] at C1
  have nl := noughts_lt xs.length
  have z9b : z9 < 73 := by omega
  have HZ9 := Lib.hid hz9
  clear nl hz9
  have HR2 := Lib.hid (And.intro bel2 (And.intro f2 ran2))
  have HG := Lib.hid (And.intro hgG (And.intro hBG hs2))
  have HG2 := Lib.hid hG
  clear bel2 f2 ran2 hgG hBG hs2 hG
  have hkw2 : Knows w2 := hk.below HR2.out.1
  go_wp2_with fail
  refine C1.out.mono ?_
  rintro e w3 ⟨ys, rfl, hy72, hyl, hyt, hb3⟩
  clear C1 num2
  have HY := Lib.hid (And.intro hyl hyt)
  clear hyl hyt
  go_wp2_with (with_reducible refine wpList_store_72z rfl (.tmp 4) (.tmp 19) rfl w3.heap.size hy72 rfl rfl ?_ ?_)
  · first
    | exact World.alloc_heap_new w3 _
    | exact (World.alloc_heap_new w3 _).trans (by kernel_rfl)
  intro w4 hb4 ho4 hs4
  obtain ⟨D, hD⟩ : ∃ D, w3.heap.size = D := ⟨_, rfl⟩
  rw [hD] at hb4 ho4 hs4 ⊢
  have hGD : G < D := by have := hb3.size; have := HG.out.2.2; omega
  have bel34 : Below w2.heap.size w2 w4 := Only.below (hb3.alloc hb3.size _) (by rw [← hD]; exact hb3.size) (Nat.le_refl _) ho4
  have ran4 : Ran w4 G xs blk := ⟨HR2.out.2.2.at_.below bel34, hr.lt, hr.rest⟩
  have in4 : In w4 (some ⟨D, 0, none⟩) z9 (endL xs.length) := by
    have := In.take (⟨hy72, fun j x hx => ⟨_, rfl, hb4.at_ j x hx⟩⟩ : In w4 (some ⟨D, 0, none⟩) 72 ys) (k := z9) (by omega)
    rw [HY.out.2] at this
    exact this
  have C2 := Lib.hid (fill_any G xs blk (some ⟨D, 0, none⟩) z9 72 (endL xs.length) w4 ran4 in4 (endL_lt _) (fun _ ad he => by cases he; show D ≠ G; omega) (by omega) (hkw2.below bel34) (by have := hk.lt; have := HG.out.2.1; omega) (by omega))
  have hsl := run_arr_h Tryd.underlying85 ⟨D, 0, none⟩ .i64 (z9 : Int) z9 rfl (by omega)
  have f4 := HR2.out.2.1.below bel34
  have bel4 : Below w.heap.size w w4 := HR2.out.1.trans (bel34.mono HR2.out.1.size)
  have HF4 := Lib.hid (And.intro f4 bel4)
  clear ran4 in4 hb4 ho4 bel34 hb3 hy72 f4 bel4 hs4 hGD
  go_wp2_with fail
  refine C2.out.mono ?_
  rintro e w5 ⟨rfl, ⟨blk5, ran5⟩, ho5⟩
  have f5 : BArr w5 w.heap.size 23 zero32 := ho5.heap (by have := HG.out.2.1; omega) HF4.out.1
  have bel5 : Below w.heap.size w w5 := Only.below HF4.out.2 (by have := HG.out.2.1; omega) (Nat.le_refl _) ho5
  have h8 := ran5.at_.eight
  obtain ⟨E, hE⟩ : ∃ E, eaten h0 (xs ++ endL xs.length) ((xs ++ endL xs.length).length / 64) = E := ⟨_, rfl⟩
  have hsha : sha xs = toldL E := by rw [sha, hE]
  have hE8 : E.length = 8 := hE ▸ eaten_length _ _ h0_length _
  have hEl : ∀ x ∈ E, x < 4294967296 := hE ▸ eaten_lt _ _ h0_lt _
  rw [hE] at h8
  have H8 := Lib.hid hE8
  have C3 := Lib.hid (told_any E w5 hE8 hEl)
  have HSha := Lib.hid hsha
  clear hsha hE8 hEl hE ran5 ho5
  have hl32 : (toldL E).length = 32 := by rw [toldL_length, H8.out]
  have HZ32 := Lib.hid (show zero32.length = 32 from rfl)
  go_wp2_with (with_reducible refine wpList_load8_mid rfl (.tmp 24) rfl G 1 rfl E H8 h8 ?_)
  refine C3.out.mono ?_
  rintro e w6 ⟨rfl, hb6⟩
  have f6 := f5.below hb6
  go_wp2_with (with_reducible refine wpList_store_sum rfl (.tmp 2) (.tmp 26) rfl w.heap.size rfl zero32 (toldL E) HZ32 hl32 f6 rfl ?_)
  refine bodyPost_ret_by (results_cell_row (p := 2) (ty := 23) (by kernel_rfl) _ _ w.heap.size 23 (bvs (toldL E)).toArray (0, 0) _ rfl (f6.setRow _) Tryd.underlying23 rfl (by rw [List.size_toArray, bvs_length, hl32]; exact sizeSum)) rfl ?_
  exact ⟨by rw [HSha.out]; rfl, below_setRow (below_on bel5 (Nat.le_refl _) hb6) (Nat.le_refl _) _⟩

end Go.Proofs.YthbgcijkpincfaaDoor
