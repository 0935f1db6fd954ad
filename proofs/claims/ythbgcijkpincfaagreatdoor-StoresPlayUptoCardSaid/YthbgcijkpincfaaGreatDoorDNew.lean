/-
  disks: New, and what it calls.
-/
import Derived.Test.YthbgcijkpincfaaGreatDoorDRep
import Derived.Lib.SliceRun
namespace Go.Proofs.YthbgcijkpincfaaGreatDoor
open Go.RowKit

theorem infoSector : (Tryz.prog.info? 137).map (fun i => (i.zero, i.size, i.bytes)) = some (some (.agg (bvs (List.replicate 64 0)).toArray), 64, 64) := by kernel_rfl
theorem sizeSector : (Tryz.prog.info? 137).map (·.size) = some 64 := by kernel_rfl
theorem infoWrite : (Tryz.prog.info? 141).map (fun i => (i.zero, i.size, i.bytes)) = some (some (.agg (.int .i64 0 :: bvs (List.replicate 64 0)).toArray), 65, 72) := by kernel_rfl
theorem sizeWrite : (Tryz.prog.info? 141).map (·.size) = some 65 := by kernel_rfl

theorem SecAt.news {w : World} {g c : Nat} {R : List (List Nat)} (h : SecAt w g c R) : ∀ j u, (dsecs R).flatten[j]? = some u → w.cell? ((⟨g, 0, none⟩ : Addr).add j) = some u := fun j u hu => h.cells rfl j u hu

theorem secs_one (R : List (List Nat)) : ∀ u ∈ (dsecs R).flatten, u.oneCell' = true := by
  intro u hu
  obtain ⟨l, hl, hx⟩ := List.mem_flatten.1 hu
  obtain ⟨x, _, rfl⟩ := List.mem_map.1 hl
  exact bvs_oneCell x u hx

set_option maxRecDepth 100000 in
set_option maxHeartbeats 1000000 in
theorem clone_any {w : World} {a ca : Nat} {R : List (List Nat)} (h : SecAt w a ca R) (hs : ∀ x ∈ R, Sec x) (h0 : 0 < R.length) (h1 : R.length ≤ 4096) :
    Calls Tryz.prog 82 #[.slice (some ⟨a, 0, none⟩) R.length ca] w fun e w' =>
      ∃ b cb, e = .returned (.slice (some ⟨b, 0, none⟩) R.length cb) ∧ SecAt w' b cb R ∧ w.heap.size ≤ b ∧ Below w.heap.size w w' := by
  have qT : ∀ (w : World) (a : Option Addr) (n c n' c' : Nat), (binOp .eql 114 (.slice a n c) (.slice none n' c')).run Tryz.prog w = .ok (.bool a.isNone) w := fun w a n c n' c' => Lib.run_eql_slice_nil w _ _ a n c n' c' Tryz.underlying114
  obtain ⟨i0, hi, hz0, hz1, hz2⟩ := info_parts infoSector
  have hl : (dsecs R).flatten.length = R.length * 64 := by rw [chunk_len (secs_len hs), dsecs, List.length_map]
  go_enter Tryz.func82, Tryz.ntmps82
  have hown0 : (w.alloc (Obj.cells #[] 137)).ownsRow w.heap.size 137 64 (.slice (some ⟨w.heap.size, 0, none⟩) 0 0) 0 [] :=
    ⟨rfl, .inr ⟨w.heap.size, 0, #[], rfl, Nat.le_refl _, World.alloc_heap_new w _, Nat.le_refl _, Nat.zero_le _, rfl, rfl⟩⟩
  have hbA := below_alloc w (Obj.cells #[] 137)
  go_wp2_with (at_builtin; refine wpList_append_lies _ rfl _ _ 114 rfl w.heap.size 137 i0 _ 64 64 Tryz.underlying114 hi hz0 hz1 hz2 (by rfl) (by decide) _ 0 [] rfl hown0 ⟨a, 0, none⟩ R.length ca (dsecs R).flatten rfl hl (h.below hbA).news (secs_one R) h0 (by unfold maxLen; omega) (by omega) (by simp) _ rfl ?_; intro g cap w2 hown hgrow hat hlt)
  have hb2 : Below w.heap.size w w2 := hbA.grown hgrow (by simp) (fun k hk => by cases hk; exact Nat.le_refl _)
  have hg : w.heap.size ≤ g := by
    rcases hat with e | e
    · cases e; exact Nat.le_refl _
    · rw [e]; simp
  rw [List.nil_append, Nat.zero_add] at hown
  go_ret
  refine ⟨g, cap, ?_, own_base hown, hg, hb2⟩
  simp

theorem zeroCells_secs (m : Nat) : (madeCells (Value.cells (.agg (bvs (List.replicate 64 0)).toArray)) (m * 64)).toList = (dsecs (List.replicate m (List.replicate 64 0))).flatten := by
  have hs : ∀ x ∈ List.replicate m (List.replicate 64 0), Sec x := fun x hx => by
    rw [List.eq_of_mem_replicate hx]
    exact ⟨by simp, fun y hy => by rw [List.eq_of_mem_replicate hy]; omega⟩
  have hl : (dsecs (List.replicate m (List.replicate 64 0))).flatten.length = m * 64 := by rw [chunk_len (secs_len hs), dsecs, List.length_map, List.length_replicate]
  apply List.ext_getElem
  · rw [Array.length_toList, size_madeCells, hl]
  · intro i h1 h2
    have hz : ∀ j, j < 64 → (bvs (List.replicate 64 0)).toArray[j]! = .int .u8 0 := fun j hj => by
      rw [getElem!_pos _ j (by rw [List.size_toArray, bvs_length, List.length_replicate]; exact hj), List.getElem_toArray]
      unfold bvs
      rw [List.getElem_map, List.getElem_replicate]
      rfl
    have e1 : (madeCells (Value.cells (.agg (bvs (List.replicate 64 0)).toArray)) (m * 64)).toList[i] = .int .u8 0 := by
      simp only [madeCells, Value.cells, Array.getElem_toList, Array.getElem_map, Array.getElem_range]
      exact hz _ (Nat.mod_lt _ (by simp [bvs_length]))
    rw [e1]
    have h3 : (dsecs (List.replicate m (List.replicate 64 0))).flatten[i] ∈ (dsecs (List.replicate m (List.replicate 64 0))).flatten := List.getElem_mem h2
    obtain ⟨l, hl1, hl2⟩ := List.mem_flatten.1 h3
    obtain ⟨x, hx, rfl⟩ := List.mem_map.1 hl1
    rw [List.eq_of_mem_replicate hx] at hl2
    obtain ⟨y, hy, hy2⟩ := List.mem_map.1 hl2
    rw [← hy2, List.eq_of_mem_replicate hy]
    rfl

/-- A disk of sectors that are sure. -/
def fresh (R : List (List Nat)) : St := ⟨R, [], -1, false⟩
theorem fresh_ok {R : List (List Nat)} (hs : ∀ x ∈ R, Sec x) (h0 : 0 < R.length) (h1 : R.length ≤ 4096) : (fresh R).Ok :=
  ⟨h0, h1, hs, (fun x hx => by cases hx), (by show (-1 : Int) ≤ -1; decide), (by show (-1 : Int) ≤ 9223372036854775807; decide)⟩

/-- A disk in new memory. -/
def Made (w : World) (s : St) (g : Nat) (w' : World) : Prop := Disk w' g (fun x => w.heap.size ≤ x ∧ x < w'.heap.size) s ∧ Below w.heap.size w w'

set_option maxRecDepth 100000 in
set_option maxHeartbeats 1000000 in
theorem diskOf_any {w0 w : World} {a ca : Nat} {R : List (List Nat)} (hb0 : Below w0.heap.size w0 w) (h : SecAt w a ca R) (ha : w0.heap.size ≤ a) (hs : ∀ x ∈ R, Sec x) (h0 : 0 < R.length) (h1 : R.length ≤ 4096) :
    Calls Tryz.prog 68 #[.slice (some ⟨a, 0, none⟩) R.length ca] w fun e w' => ∃ g, e = .returned (.pointer (some ⟨g, 0, none⟩)) ∧ Made w0 (fresh R) g w' := by
  have C := Lib.hid (clone_any h hs h0 h1)
  have HH := Lib.hid (And.intro hb0 (And.intro h (And.intro ha (And.intro hs (And.intro h0 h1)))))
  clear h hs h0 h1 hb0 ha
  go_enter Tryz.func68, Tryz.ntmps68
  go_wp2_with fail
  refine C.out.mono ?_
  rintro e w2 ⟨b, cb, rfl, hR2, hb, hbel⟩
  clear C
  obtain ⟨hb0, h, ha, hs, h0, h1⟩ := HH.out
  have ha2 := (h.below hbel)
  have alt := h.lt
  have HH2 := Lib.hid (And.intro (h.below hbel) (And.intro hR2 (And.intro (hb0.trans (hbel.mono hb0.size)) (And.intro alt (And.intro ha (And.intro hb (And.intro hs (And.intro h0 (And.intro h1 (And.intro hb0.size hbel.size))))))))))
  clear hb0 h ha hs h0 h1 ha2 alt hR2 hb hbel HH
  go_wp2
  go_ret
  obtain ⟨ha, hb, hB, hal, haw, hbw, hs, h0, h1, hsz, hsz2⟩ := HH2.out
  refine ⟨w2.heap.size, rfl, ⟨fresh_ok hs h0 h1, ⟨a, b, ca, cb, .slice none 0 0, ⟨World.alloc_heap_new w2 _, ha.below (below_alloc w2 _), hb.below (below_alloc w2 _), ⟨rfl, .inl ⟨rfl, rfl⟩⟩, by omega⟩, ?_⟩, fun x hx => hx.2⟩, hB.trans ((below_alloc w2 _).mono (by omega))⟩
  have la := ha.lt
  have lb := hb.lt
  intro x hx
  rw [World.size_alloc]
  rcases hx with rfl | rfl | rfl | hx
  · omega
  · omega
  · omega
  · cases hx

set_option maxRecDepth 100000 in
set_option maxHeartbeats 1000000 in
theorem new_no (w : World) (z : Int) (h : ¬ (1 ≤ z ∧ z ≤ 4096)) :
    Calls Tryz.prog 7 #[.int .i64 z] w fun e w' => e = .returned (.tuple #[.pointer none, .int .i64 1]) ∧ w = w' := by
  by_cases h1 : z < 1
  · have h2 : decide (z < 1) = true := by simp; omega
    go_enter Tryz.func7, Tryz.ntmps7
    go_wp2
    go_ret2
    exact ⟨rfl, rfl⟩
  · have h2 : decide (z < 1) = false := by simp; omega
    have h3 : decide (4096 < z) = true := by simp; omega
    have h4 : 4096 < z := by omega
    go_enter Tryz.func7, Tryz.ntmps7
    go_wp2
    go_ret2
    exact ⟨rfl, rfl⟩

def zeros (n : Nat) : List (List Nat) := List.replicate n (List.replicate 64 0)
theorem zeros_sec (n : Nat) : ∀ x ∈ zeros n, Sec x := fun x hx => by
  rw [List.eq_of_mem_replicate hx]
  exact ⟨by simp, fun y hy => by rw [List.eq_of_mem_replicate hy]; omega⟩
theorem zeros_length (n : Nat) : (zeros n).length = n := List.length_replicate

set_option maxRecDepth 100000 in
set_option maxHeartbeats 1000000 in
theorem new_yes (w : World) (n : Nat) (h0 : 0 < n) (h1 : n ≤ 4096) :
    Calls Tryz.prog 7 #[.int .i64 (n : Int)] w fun e w' => ∃ g, e = .returned (.tuple #[.pointer (some ⟨g, 0, none⟩), .int .i64 0]) ∧ Made w (fresh (zeros n)) g w' := by
  obtain ⟨i0, hi, hz0, hz1, hz2⟩ := info_parts infoSector
  have h2 : decide ((n : Int) < 1) = false := by simp; omega
  have h3 : decide (4096 < (n : Int)) = false := by simp; omega
  have hm : n ≤ maxLen := by unfold maxLen; omega
  have hm2 : i0.bytes * n ≤ 281474976710656 := by rw [hz2]; omega
  have H0 := Lib.hid (And.intro h0 h1)
  clear h0 h1
  go_enter Tryz.func7, Tryz.ntmps7
  go_wp2_with (at_make; refine wpList_make_full _ rfl _ _ 114 rfl w.heap.size 137 i0 _ 64 Tryz.underlying114 hi hz0 hz1 _ _ _ _ n rfl rfl rfl rfl hm2 hm (Nat.le_refl _) ?_; intro w1 hown hgrow)
  have hb1 : Below w.heap.size w w1 := (Below.refl _ w).grown hgrow (Nat.le_refl _) (fun k hk => by cases hk)
  rw [zeroCells_secs] at hown
  have hR : SecAt w1 w.heap.size n (zeros n) := by
    unfold SecAt
    rw [zeros_length]
    exact own_base hown
  have C := diskOf_any hb1 hR (Nat.le_refl _) (zeros_sec n) (by rw [zeros_length]; exact H0.out.1) (by rw [zeros_length]; exact H0.out.2)
  rw [zeros_length] at C
  have HC := Lib.hid C
  clear C hR hown hb1 hgrow
  go_wp2_with fail
  refine HC.out.mono ?_
  rintro e w2 ⟨g, rfl, hM⟩
  go_wp2
  go_ret2
  exact ⟨g, rfl, hM⟩

end Go.Proofs.YthbgcijkpincfaaGreatDoor
