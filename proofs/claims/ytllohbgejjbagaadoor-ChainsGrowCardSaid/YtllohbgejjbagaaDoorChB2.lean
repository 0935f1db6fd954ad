/-
  Several texts in one: HCalls, LSameSums, LStr, HAlive, HTools, HGrowLaw, LArrArg.
-/
import Derived.Test.YtllohbgejjbagaaDoorChB1
import Derived.Test.YtllohbgejjbagaaDoorLSum
import Derived.Deep.QuietTactic
import Derived.BigQuiet
import Derived.Test.YtllohbgejjbagaaDoorLSums
import Derived.Test.YtllohbgejjbagaaDoorLMem
import Derived.Laws.BytesArg
import Derived.Laws.IdiomStrings
import Derived.Test.YtllohbgejjbagaaDoorLPre
import Derived.ProofKit
import Derived.OpenShut
/-
  chains: what each call answers, whatever is asked, as functions of the entries.
-/
namespace Go.Proofs.YtllohbgejjbagaaDoor
open Go.RowKit

def markV (l : List (List Nat)) (n : Nat) : List Nat := if n ≤ l.length then markL (l.take n) else zero32
def rootV (l : List (List Nat)) (n : Nat) : List Nat := if n ≤ l.length then rt (lf l) 0 n else zero32
def pathOk (l : List (List Nat)) (a n : Nat) : Prop := n ≤ l.length ∧ a < n
def linkOk (l : List (List Nat)) (a n : Nat) : Prop := n ≤ l.length ∧ 1 ≤ a ∧ a ≤ n
instance (l : List (List Nat)) (a n : Nat) : Decidable (pathOk l a n) := inferInstanceAs (Decidable (_ ∧ _))
instance (l : List (List Nat)) (a n : Nat) : Decidable (linkOk l a n) := inferInstanceAs (Decidable (_ ∧ _))
def pathE (l : List (List Nat)) (a n : Nat) : Int := if pathOk l a n then 0 else 1
def linkE (l : List (List Nat)) (a n : Nat) : Int := if linkOk l a n then 0 else 1
def pathN (l : List (List Nat)) (a n : Nat) : Nat := if pathOk l a n then dep a n else 0
def linkN (l : List (List Nat)) (a n : Nat) : Nat := if linkOk l a n then ldep a n true else 0
def pathS (l : List (List Nat)) (a n : Nat) : List Nat := if pathOk l a n then (pathL (lf l) 0 n a).flatten else []
def linkS (l : List (List Nat)) (a n : Nat) : List Nat := if linkOk l a n then (linkL (lf l) 0 n a true).flatten else []

theorem markV_length (l : List (List Nat)) (n : Nat) : (markV l n).length = 32 := by unfold markV; split; exact markL_length _; rfl
theorem markV_lt (l : List (List Nat)) (n : Nat) : ∀ x ∈ markV l n, x < 256 := by unfold markV; split; exact markL_lt _; exact zero32_lt
theorem rootV_length (l : List (List Nat)) (n : Nat) : (rootV l n).length = 32 := by
  unfold rootV; split
  · exact rt_length (lf l) 0 n fun j _ => lf_length l _
  · rfl
theorem rootV_lt (l : List (List Nat)) (n : Nat) : ∀ x ∈ rootV l n, x < 256 := by
  unfold rootV; split
  · exact rt_lt (lf l) 0 n fun j _ => lf_lt l _
  · exact zero32_lt
theorem pathS_lt (l : List (List Nat)) (a n : Nat) : ∀ x ∈ pathS l a n, x < 256 := by
  unfold pathS; split
  · intro x hx
    obtain ⟨q, hq, hxq⟩ := List.mem_flatten.1 hx
    exact pathL_of (P := fun q => ∀ x ∈ q, x < 256) (lf l) n 0 a (fun i m => rt_lt (lf l) i m fun j _ => lf_lt l _) q hq x hxq
  · intro x hx; cases hx
theorem linkS_lt (l : List (List Nat)) (a n : Nat) : ∀ x ∈ linkS l a n, x < 256 := by
  unfold linkS; split
  · intro x hx
    obtain ⟨q, hq, hxq⟩ := List.mem_flatten.1 hx
    exact linkL_of (P := fun q => ∀ x ∈ q, x < 256) (lf l) n 0 a true (fun i m => rt_lt (lf l) i m fun j _ => lf_lt l _) q hq x hxq
  · intro x hx; cases hx

section
variable {w : World} {g : Nat} {G : Nat → Prop} {l : List (List Nat)}
theorem c_size (h : Chain w g G l) : Calls Tryd.prog 14 #[.pointer (some ⟨g, 0, none⟩)] w fun e w' => e = .returned (.int .u64 (l.length : Int)) ∧ w' = w := by
  obtain ⟨⟨gf, fA, fc, v, E, h⟩, hG⟩ := h
  exact hsize_at h
theorem c_mark (h : Chain w g G l) (hl : l.length ≤ 65536) (n : Nat) :
    Calls Tryd.prog 9 #[.pointer (some ⟨g, 0, none⟩), .int .u64 (n : Int)] w fun e w' => e = .returned (.tuple #[sv (markV l n), .int .i64 (hasE l n)]) ∧ Below w.heap.size w w' := by
  obtain ⟨⟨gf, fA, fc, v, E, h⟩, hG⟩ := h
  unfold markV hasE
  by_cases hn : n ≤ l.length
  · rw [if_pos hn, if_pos hn]; exact hmark_yes h hG hn hl
  · rw [if_neg hn, if_neg hn]; exact hmark_no h hG hn
theorem c_root (h : Chain w g G l) (hl : l.length ≤ 65536) (n : Nat) (hk : Knows w) (hs : Starts w) :
    Calls Tryd.prog 10 #[.pointer (some ⟨g, 0, none⟩), .int .u64 (n : Int)] w fun e w' => e = .returned (.tuple #[sv (rootV l n), .int .i64 (hasE l n)]) ∧ Below w.heap.size w w' := by
  obtain ⟨⟨gf, fA, fc, v, E, h⟩, hG⟩ := h
  unfold rootV hasE
  by_cases hn : n ≤ l.length
  · rw [if_pos hn, if_pos hn]; exact hroot_yes h hG hn hl hk hs
  · rw [if_neg hn, if_neg hn]; exact hroot_no h hG hn
theorem c_path (h : Chain w g G l) (hl : l.length ≤ 65536) (a n : Nat) (hk : Knows w) (hs : Starts w) :
    Calls Tryd.prog 11 #[.pointer (some ⟨g, 0, none⟩), .int .u64 (a : Int), .int .u64 (n : Int)] w fun e w' => ∃ A c, e = .returned (.tuple #[.slice A (pathN l a n) c, .int .i64 (pathE l a n)]) ∧
      w'.ownsRow w.heap.size 34 32 (.slice A (pathN l a n) c) (pathN l a n) (bvs (pathS l a n)) ∧ Below w.heap.size w w' := by
  obtain ⟨⟨gf, fA, fc, v, E, h⟩, hG⟩ := h
  unfold pathE pathN pathS
  by_cases hn : n ≤ l.length
  · by_cases ha : a < n
    · have ok : pathOk l a n := ⟨hn, ha⟩
      rw [if_pos ok, if_pos ok, if_pos ok]
      refine (hpath_yes h hn hl ha hk hs).mono ?_
      rintro e w' ⟨u, c, rfl, A, c', rfl, rfl, ho, hb⟩
      exact ⟨A, c', rfl, ho, hb⟩
    · have ok : ¬ pathOk l a n := fun h => ha h.2
      rw [if_neg ok, if_neg ok, if_neg ok]
      refine (hpath_no h hn hl ha).mono ?_
      rintro e w' ⟨u, c, rfl, rfl, rfl, hb⟩
      exact ⟨none, 0, rfl, own_none _ _ _ _, hb⟩
  · have ok : ¬ pathOk l a n := fun h => hn h.1
    rw [if_neg ok, if_neg ok, if_neg ok]
    refine (hpath_far h hn a).mono ?_
    rintro e w' ⟨rfl, rfl⟩
    exact ⟨none, 0, rfl, own_none _ _ _ _, Below.refl _ _⟩
theorem c_link (h : Chain w g G l) (hl : l.length ≤ 65536) (a n : Nat) (hk : Knows w) (hs : Starts w) :
    Calls Tryd.prog 12 #[.pointer (some ⟨g, 0, none⟩), .int .u64 (a : Int), .int .u64 (n : Int)] w fun e w' => ∃ A c, e = .returned (.tuple #[.slice A (linkN l a n) c, .int .i64 (linkE l a n)]) ∧
      w'.ownsRow w.heap.size 34 32 (.slice A (linkN l a n) c) (linkN l a n) (bvs (linkS l a n)) ∧ Below w.heap.size w w' := by
  obtain ⟨⟨gf, fA, fc, v, E, h⟩, hG⟩ := h
  unfold linkE linkN linkS
  by_cases hn : n ≤ l.length
  · by_cases ha : 1 ≤ a ∧ a ≤ n
    · have ok : linkOk l a n := ⟨hn, ha⟩
      rw [if_pos ok, if_pos ok, if_pos ok]
      refine (hlink_yes h hn hl ha.1 ha.2 hk hs).mono ?_
      rintro e w' ⟨u, c, rfl, A, c', rfl, rfl, ho, hb⟩
      exact ⟨A, c', rfl, ho, hb⟩
    · have ok : ¬ linkOk l a n := fun h => ha h.2
      rw [if_neg ok, if_neg ok, if_neg ok]
      refine (hlink_no h hn hl ha).mono ?_
      rintro e w' ⟨u, c, rfl, rfl, rfl, hb⟩
      exact ⟨none, 0, rfl, own_none _ _ _ _, hb⟩
  · have ok : ¬ linkOk l a n := fun h => hn h.1
    rw [if_neg ok, if_neg ok, if_neg ok]
    refine (hlink_far h hn a).mono ?_
    rintro e w' ⟨rfl, rfl⟩
    exact ⟨none, 0, rfl, own_none _ _ _ _, Below.refl _ _⟩
/-- An entry, or none. -/
theorem c_entry (h : Chain w g G l) (n : Nat) :
    Calls Tryd.prog 8 #[.pointer (some ⟨g, 0, none⟩), .int .u64 (n : Int)] w fun e w' => ∃ A c, e = .returned (.tuple #[.slice A (l.getD n []).length c, .int .i64 (if n < l.length then 0 else 1)]) ∧
      w'.ownsRow w.heap.size 5 1 (.slice A (l.getD n []).length c) (l.getD n []).length (bvs (l.getD n [])) ∧ Below w.heap.size w w' := by
  obtain ⟨⟨gf, fA, fc, v, E, h⟩, hG⟩ := h
  by_cases hn : n < l.length
  · rw [if_pos hn, List.getD_eq_getElem?_getD, List.getElem?_eq_getElem hn]
    refine (hentry_yes h (List.getElem?_eq_getElem hn)).mono ?_
    rintro e w' ⟨u, rfl, ho, hb⟩
    obtain ⟨A, c, rfl⟩ := own_form ho
    exact ⟨A, c, rfl, ho, hb⟩
  · rw [if_neg hn, List.getD_eq_getElem?_getD, List.getElem?_eq_none (by omega)]
    refine (hentry_no h (by omega)).mono ?_
    rintro e w' ⟨rfl, rfl⟩
    exact ⟨none, 0, rfl, own_none _ _ _ _, Below.refl _ _⟩
end

end Go.Proofs.YtllohbgejjbagaaDoor

/-
  SameSums.
-/
namespace Go.Proofs.YtllohbgejjbagaaDoor
open Go.RowKit

set_option maxRecDepth 100000 in
set_option maxHeartbeats 1000000 in
theorem sameSums_yes (A A2 : Option Addr) (n c c2 : Nat) (ys : List Nat) (w : World) (hin : InS w A n ys) (hin2 : InS w A2 n ys) (hn : n ≤ 200000000000000) :
    Calls Tryd.prog 18 #[.slice A n c, .slice A2 n c2] w fun e w' => e = .returned (.bool true) ∧ ∃ q, w' = w.drewN q := by
  have dn : ((n : Int) != (n : Int)) = false := by simp
  go_enter Tryd.func18, Tryd.ntmps18
  go_wp2
  go_loopw [5] (fun i wr => ∃ j : Nat, j ≤ n ∧ i = .int .i64 (j : Int) ∧ ∃ q, wr = w.drewN q) (fun i _ => n - (intOf i).toNat)
  case atStart => exact ⟨0, Nat.zero_le _, rfl, 0, rfl⟩
  case round =>
    obtain ⟨j, hj, rfl, q, rfl⟩ := hrel
    by_cases hlt : j < n
    · obtain ⟨ad, rfl, hl, hat⟩ := hin.at_ hlt
      obtain ⟨ad2, rfl, _, hat2⟩ := hin2.at_ hlt
      have i1 : (j : Int) < (n : Int) := by omega
      go_wp2
      refine wp_region_quiet_lit (by kernel_rfl) (by kernel_rfl) ?_
      iterate 3 quiet_step (fail)
      refine wpQuiet_step (fun K hK => ?_)
      refine quiet_load_sum rfl (.tmp 19) rfl (ad.add (j * 32)) rfl (nth ys j) hl (fun W hW => by obtain ⟨m, rfl⟩ := hW; exact hat) ?_
      go_simp
      refine hK _ ?_
      clear hK K
      iterate 3 quiet_step (fail)
      refine wpQuiet_step (fun K hK => ?_)
      refine quiet_load_sum rfl (.tmp 23) rfl (ad2.add (j * 32)) rfl (nth ys j) hl (fun W hW => by obtain ⟨m, rfl⟩ := hW; exact hat2) ?_
      go_simp
      refine hK _ ?_
      clear hK K
      have hne := run_neq_sum (nth ys j) (nth ys j) hl hl
      simp only [decide_true, Bool.not_true] at hne
      have hgd := fun x y => run_guard_neq x y (nth ys j) (nth ys j)
      quiet_step (fail)
      refine wpQuiet_nil ?_
      rintro _ ⟨nq, rfl⟩
      rw [World.drewN_drewN]
      clear hne hgd
      go_wp2
      go_roundw
      case rel => exact ⟨j + 1, by omega, by go_num, q + nq, rfl⟩
      case measure => simp [intOf]; omega
    · go_wp2
      go_ret
      exact ⟨rfl, q, rfl⟩

end Go.Proofs.YtllohbgejjbagaaDoor

/-
  string(b) of a slice of bytes.
-/
namespace Go.Proofs.YtllohbgejjbagaaDoor
open Go.RowKit

def strL (xs : List Nat) : ByteArray := ⟨(xs.map UInt8.ofNat).toArray⟩
theorem strL_inj {xs ys : List Nat} (hx : ∀ x ∈ xs, x < 256) (hy : ∀ y ∈ ys, y < 256) (h : strL xs = strL ys) : xs = ys := by
  have h1 : xs.map UInt8.ofNat = ys.map UInt8.ofNat := by
    have := congrArg ByteArray.data h
    exact congrArg Array.toList this
  have back : ∀ zs : List Nat, (∀ z ∈ zs, z < 256) → (zs.map UInt8.ofNat).map UInt8.toNat = zs := by
    intro zs
    induction zs with
    | nil => intro _; rfl
    | cons z zs ih =>
      intro hz
      have hz0 := hz z (by simp)
      have e : (UInt8.ofNat z).toNat = z := by simp; omega
      simp only [List.map_cons, List.cons.injEq]
      exact ⟨e, ih fun y hy => hz y (by simp [hy])⟩
  rw [← back xs hx, ← back ys hy, h1]

theorem conv_str {w : World} {A : Option Addr} {n : Nat} {xs : List Nat} (hin : In w A n xs) (hx : ∀ x ∈ xs, x < 256) (c : Nat) :
    (convert 22 9 (.slice A n c)).run Tryd.prog w = .ok (.string (strL xs)) w := by
  cases A with
  | none =>
    have h0 : xs = [] := by
      cases xs with
      | nil => rfl
      | cons x xs =>
        obtain ⟨ad, e, _⟩ := hin.rd 0 x rfl
        cases e
    subst h0
    exact run_convert_bytes_nil (P := Tryd.prog) w 22 5 Tryd.underlying22 Tryd.underlying5 n c 9 Tryd.underlying9
  | some a =>
    have := run_convert_bytes_back (P := Tryd.prog) w 22 9 5 a c (xs.map UInt8.ofNat) Tryd.underlying22 Tryd.underlying5 Tryd.underlying9 (fun j hj => by
      rw [List.length_map] at hj
      obtain ⟨ad, e, hc⟩ := hin.rd j _ (List.getElem?_eq_getElem hj)
      cases e
      rw [hc]
      have hb := hx _ (List.getElem_mem hj)
      simp only [List.getElem_map, bv]
      congr 2
      have e : (UInt8.ofNat xs[j]).toNat = xs[j] := by simp; omega
      rw [e])
    rw [List.length_map, hin.len] at this
    exact this

theorem toList_loop (s : ByteArray) : ∀ (k i : Nat) (r : List UInt8), s.size - i = k → ByteArray.toList.loop s i r = r.reverse ++ s.data.toList.drop i := by
  intro k
  induction k with
  | zero =>
    intro i r hk
    unfold ByteArray.toList.loop
    rw [if_neg (by omega), List.drop_of_length_le (by have : s.data.toList.length = s.size := rfl
                                                      omega)]
    simp
  | succ k ih =>
    intro i r hk
    unfold ByteArray.toList.loop
    have hi : i < s.data.toList.length := by
      have : s.data.toList.length = s.size := rfl
      omega
    rw [if_pos (by omega), ih (i + 1) _ (by omega), List.drop_eq_getElem_cons hi]
    have e : s.get! i = s.data.toList[i] := by
      have hi' : i < s.data.size := by simpa using hi
      show s.data[i]! = _
      rw [getElem!_pos s.data i hi']
      simp
    rw [e]
    simp
theorem toList_data (s : ByteArray) : s.toList = s.data.toList := by
  unfold ByteArray.toList
  rw [toList_loop s _ 0 [] rfl]
  simp
theorem strL_toList (xs : List Nat) : (strL xs).toList = xs.map UInt8.ofNat := by rw [toList_data]; rfl
theorem map_inj {xs ys : List Nat} (hx : ∀ x ∈ xs, x < 256) (hy : ∀ y ∈ ys, y < 256) (h : xs.map UInt8.ofNat = ys.map UInt8.ofNat) : xs = ys :=
  strL_inj hx hy (by unfold strL; rw [h])

end Go.Proofs.YtllohbgejjbagaaDoor

/-
  almonerlaw12.alive.
-/
namespace Go.Proofs.YtllohbgejjbagaaDoor
open Go.RowKit

/-- A byte that a literal made, behind whatever memory. -/
theorem hcame_one (x : Nat) (hx : x < 256) (W : World) : Came (W.alloc (.cells #[.int .u8 (x : Int)] 5 (1, 2))) (some ⟨W.heap.size, 0, none⟩) 1 1 [x] :=
  ⟨⟨rfl, fun j y hy => ⟨_, rfl, by
    have hj := (List.getElem?_eq_some_iff.1 hy).1
    obtain rfl : j = 0 := by simp at hj; omega
    cases hy
    exact cell_of_row _ _ 0 _ _ (1, 2) (World.alloc_heap_new W _)⟩⟩, (by intro y hy; simp at hy; omega), (fun h => by cases h), Nat.le_refl _⟩
theorem hlit_one (z : Int) (W : World) : (convert 22 22 (.slice (some ⟨W.heap.size, 0, none⟩) 1 1)).run Tryd.prog (W.alloc (.cells #[.int .u8 z] 5)) = .ok (.slice (some ⟨W.heap.size, 0, none⟩) 1 1) (W.alloc (.cells #[.int .u8 z] 5 (1, 2))) :=
  Joins.run_convert_bytes_const_at W _ _ _ 1 1 _ rfl Tryd.underlying22 Tryd.underlying5

def two2 : List (List Nat) := [[97], [98]]
theorem two_lf : rootV two2 1 = leafL [97] := by unfold rootV; rw [if_pos (by decide), rt_one]; rfl
theorem two_mark0 : markV two2 0 = zero32 := by unfold markV; rw [if_pos (by decide)]; rfl
theorem two_mark3 : markV two2 3 = zero32 := by unfold markV; rw [if_neg (by decide)]
theorem two_path : pathS two2 0 2 = leafL [98] := by
  have c2 : cutN 2 = 1 := by decide
  unfold pathS
  rw [if_pos (show pathOk two2 0 2 from ⟨by decide, by omega⟩), pathL_low _ (by omega) (by omega), c2, pathL_one _ (by omega), rt_one]
  simp
  rfl
theorem two_pathN : pathN two2 0 2 = 1 := by
  unfold pathN
  have c2 : cutN 2 = 1 := by decide
  have := pathL_length (lf two2) 2 0 0
  rw [if_pos (show pathOk two2 0 2 from ⟨by decide, by omega⟩), ← this, pathL_low _ (by omega) (by omega), c2, pathL_one _ (by omega)]
  rfl
theorem two_link : linkS two2 1 2 = leafL [98] := by
  have c2 : cutN 2 = 1 := by decide
  unfold linkS
  rw [if_pos (show linkOk two2 1 2 from ⟨by decide, by omega, by omega⟩), linkL_low _ (by omega) (by omega), c2, linkL_all _ (by omega)]
  simp
  rw [rt_one]
  rfl
theorem two_linkN : linkN two2 1 2 = 1 := by
  unfold linkN
  have c2 : cutN 2 = 1 := by decide
  have := linkL_length (lf two2) 2 0 1 true
  rw [if_pos (show linkOk two2 1 2 from ⟨by decide, by omega, by omega⟩), ← this, linkL_low _ (by omega) (by omega), c2, linkL_all _ (by omega)]
  rfl
theorem two_no : linkN two2 0 2 = 0 := by unfold linkN; rw [if_neg (fun h => by have := h.2.1; omega)]
theorem two_h0 : hasE two2 0 = 0 := by unfold hasE; rw [if_pos (by decide)]
theorem two_h1 : hasE two2 1 = 0 := by unfold hasE; rw [if_pos (by decide)]
theorem two_h3 : hasE two2 3 = 1 := by unfold hasE; rw [if_neg (by decide)]
theorem two_pe : pathE two2 0 2 = 0 := by unfold pathE; rw [if_pos (show pathOk two2 0 2 from ⟨by decide, by omega⟩)]
theorem two_le : linkE two2 1 2 = 0 := by unfold linkE; rw [if_pos (show linkOk two2 1 2 from ⟨by decide, by omega, by omega⟩)]
theorem two_ln : linkE two2 0 2 = 1 := by unfold linkE; rw [if_neg (fun h => by have := h.2.1; omega)]
theorem str_b : strL [98] = { data := #[98] } := rfl

set_option maxRecDepth 100000 in
set_option maxHeartbeats 8000000 in
theorem halive_any (w : World) (hk : Knows w) (hs : Starts w) :
    Calls Tryd.prog 16 #[] w fun e w' => e = .returned (.bool true) ∧ Below w.heap.size w w' := by
  have HN := Lib.hid (new_chain w)
  obtain ⟨z, hz⟩ : ∃ z, z = zero32 := ⟨_, rfl⟩
  have hzl : z.length = 32 := by rw [hz]; rfl
  obtain ⟨a1, ha1⟩ : ∃ a1, leafL [97] = a1 := ⟨_, rfl⟩
  have hal : a1.length = 32 := by rw [← ha1]; exact leafL_length _
  obtain ⟨b1, hb1⟩ : ∃ b1, leafL [98] = b1 := ⟨_, rfl⟩
  have hbl : b1.length = 32 := by rw [← hb1]; exact leafL_length _
  have qz : ∀ W : World, (binOp .eql 34 (sv z) (.agg #[.int .u8 0, .int .u8 0, .int .u8 0, .int .u8 0, .int .u8 0, .int .u8 0, .int .u8 0, .int .u8 0, .int .u8 0, .int .u8 0, .int .u8 0, .int .u8 0, .int .u8 0, .int .u8 0, .int .u8 0, .int .u8 0, .int .u8 0, .int .u8 0, .int .u8 0, .int .u8 0, .int .u8 0, .int .u8 0, .int .u8 0, .int .u8 0, .int .u8 0, .int .u8 0, .int .u8 0, .int .u8 0, .int .u8 0, .int .u8 0, .int .u8 0, .int .u8 0])).run Tryd.prog W = .ok (.bool true) W := fun W => by
    have := run_eql_sum z zero32 hzl rfl W
    rw [decide_eq_true hz] at this
    exact this
  have qa := run_eql_sum a1 a1 hal hal
  rw [decide_eq_true rfl] at qa
  have gz : ∀ (x y : Operand) (W : World), (eqGuard .eql 34 x y (sv z) (.agg #[.int .u8 0, .int .u8 0, .int .u8 0, .int .u8 0, .int .u8 0, .int .u8 0, .int .u8 0, .int .u8 0, .int .u8 0, .int .u8 0, .int .u8 0, .int .u8 0, .int .u8 0, .int .u8 0, .int .u8 0, .int .u8 0, .int .u8 0, .int .u8 0, .int .u8 0, .int .u8 0, .int .u8 0, .int .u8 0, .int .u8 0, .int .u8 0, .int .u8 0, .int .u8 0, .int .u8 0, .int .u8 0, .int .u8 0, .int .u8 0, .int .u8 0, .int .u8 0])).run Tryd.prog W = .ok () W := fun x y W => run_guard_eql x y z zero32 W
  have ga := run_guard_eql
  have hk2 := hk
  have HK := Lib.hid (And.intro hk hs)
  have HE := Lib.hid (And.intro hz (And.intro ha1 hb1))
  clear hk hs hz ha1 hb1 hk2
  go_enter Tryd.func16, Tryd.ntmps16
  go_wp2_with fail
  refine HN.out.mono ?_
  rintro e w1 ⟨g, rfl, c1, c2⟩
  have HM1 := Lib.hid (MadeAt.mk (w := w) c2 (fun x hx => hx.1) c1)
  clear c1 c2 HN
  have k1 := hlit_one 97 w1
  have bl1 := below_alloc w1 (.cells #[.int .u8 ((97 : Nat) : Int)] 5 (1, 2))
  have CA1 := Lib.hid (hadd_yes (HM1.out.below bl1).chain (by decide) (hcame_one 97 (by omega) w1) (by omega) (away_of HK.out.1 HK.out.2 HM1.out.new) (HK.out.1.below (HM1.out.below bl1).bel) (HK.out.2.below (HM1.out.below bl1).bel))
  have HG1 := Lib.hid (HM1.out.below bl1)
  clear bl1
  go_wp2_with fail
  refine CA1.out.mono ?_
  rintro e w2 ⟨rfl, hg⟩
  obtain ⟨G2, hm⟩ := HG1.out.grew hg
  have HM2 := Lib.hid hm
  clear hm hg CA1 HG1 HM1 k1
  have k2 := hlit_one 98 w2
  have bl2 := below_alloc w2 (.cells #[.int .u8 ((98 : Nat) : Int)] 5 (1, 2))
  have CA2 := Lib.hid (hadd_yes (HM2.out.below bl2).chain (by decide) (hcame_one 98 (by omega) w2) (by omega) (away_of HK.out.1 HK.out.2 HM2.out.new) (HK.out.1.below (HM2.out.below bl2).bel) (HK.out.2.below (HM2.out.below bl2).bel))
  have HG2 := Lib.hid (HM2.out.below bl2)
  clear bl2
  go_wp2_with fail
  refine CA2.out.mono ?_
  rintro e w3 ⟨rfl, hg⟩
  obtain ⟨G3, hm⟩ := HG2.out.grew hg
  have HM3 := Lib.hid hm
  clear hm hg CA2 HG2 HM2 k2
  have HM3' : Hid (MadeAt w w3 g G3 two2) := HM3
  clear HM3
  have HF3 := Lib.hid (And.intro HM3'.out trivial)
  clear HM3'
  have CT := c_entry HF3.out.1.chain 1
  rw [show two2.getD 1 [] = [98] from rfl, show ([98] : List Nat).length = 1 from rfl] at CT
  have C1 := Lib.hid CT
  clear CT
  go_wp2_with fail
  refine C1.out.mono ?_
  rintro e w4 ⟨A4, d4, rfl, ho4, hb4⟩
  clear C1
  have HF4 := Lib.hid (And.intro (HF3.out.1.below hb4) (And.intro (In.of_own (xs := [98]) (A := A4) (n := 1) (c := d4) ho4) trivial))
  clear HF3
  clear ho4 hb4
  have C2 := Lib.hid (c_entry HF4.out.1.chain 2)
  go_wp2_with fail
  refine C2.out.mono ?_
  rintro e w5 ⟨A5, d5, rfl, ho5, hb5⟩
  clear C2
  have HF5 := Lib.hid (And.intro (HF4.out.1.below hb5) (And.intro (HF4.out.2.1.below hb5) trivial))
  clear HF4
  clear ho5 hb5
  have CT := c_mark HF5.out.1.chain (by decide) 0
  rw [two_mark0, ← HE.out.1, two_h0] at CT
  have C1 := Lib.hid CT
  clear CT
  go_wp2_with fail
  refine C1.out.mono ?_
  rintro e w6 ⟨rfl, hb6⟩
  clear C1
  have HF6 := Lib.hid (And.intro (HF5.out.1.below hb6) (And.intro (HF5.out.2.1.below hb6) trivial))
  clear HF5
  clear hb6
  obtain ⟨w7, hw⟩ : ∃ w7, w7 = w6.alloc (.cells (bvs z).toArray 34) := ⟨_, rfl⟩
  have hb7 : Below w6.heap.size w6 w7 := by rw [hw]; exact below_alloc _ _
  have hn7 : BArr w7 w6.heap.size 34 z := by rw [hw]; exact BArr.new _ _ _
  have HW := Lib.hid hw
  clear hw
  go_wp2_with (with_reducible refine wpList_store_new w6 _ (by simp) rfl (.tmp 8) (.tmp 43) rfl rfl z hzl rfl ?_; rw [← HW.out])
  clear HW
  obtain ⟨g7, hg7⟩ : ∃ g, w6.heap.size = g := ⟨_, rfl⟩
  rw [hg7] at hn7
  have HF7 := Lib.hid (And.intro (HF6.out.1.below hb7) (And.intro (HF6.out.2.1.below hb7) (And.intro (hn7) trivial)))
  clear HF6
  rw [hg7]
  clear hn7 hb7 hg7
  have CT := c_mark HF7.out.1.chain (by decide) 3
  rw [two_mark3, ← HE.out.1, two_h3] at CT
  have C1 := Lib.hid CT
  clear CT
  go_wp2_with fail
  refine C1.out.mono ?_
  rintro e w8 ⟨rfl, hb8⟩
  clear C1
  have HF8 := Lib.hid (And.intro (HF7.out.1.below hb8) (And.intro (HF7.out.2.1.below hb8) (And.intro (HF7.out.2.2.1.below hb8) trivial)))
  clear HF7
  clear hb8
  obtain ⟨w9, hw⟩ : ∃ w9, w9 = w8.alloc (.cells (bvs z).toArray 34) := ⟨_, rfl⟩
  have hb9 : Below w8.heap.size w8 w9 := by rw [hw]; exact below_alloc _ _
  have hn9 : BArr w9 w8.heap.size 34 z := by rw [hw]; exact BArr.new _ _ _
  have HW := Lib.hid hw
  clear hw
  go_wp2_with (with_reducible refine wpList_store_new w8 _ (by simp) rfl (.tmp 10) (.tmp 48) rfl rfl z hzl rfl ?_; rw [← HW.out])
  clear HW
  obtain ⟨g9, hg9⟩ : ∃ g, w8.heap.size = g := ⟨_, rfl⟩
  rw [hg9] at hn9
  have HF9 := Lib.hid (And.intro (HF8.out.1.below hb9) (And.intro (HF8.out.2.1.below hb9) (And.intro (HF8.out.2.2.1.below hb9) (And.intro (hn9) trivial))))
  clear HF8
  rw [hg9]
  clear hn9 hb9 hg9
  have CT := c_root HF9.out.1.chain (by decide) 1 (HK.out.1.below HF9.out.1.bel) (HK.out.2.below HF9.out.1.bel)
  rw [two_lf, HE.out.2.1, two_h1] at CT
  have C1 := Lib.hid CT
  clear CT
  go_wp2_with fail
  refine C1.out.mono ?_
  rintro e w10 ⟨rfl, hb10⟩
  clear C1
  have HF10 := Lib.hid (And.intro (HF9.out.1.below hb10) (And.intro (HF9.out.2.1.below hb10) (And.intro (HF9.out.2.2.1.below hb10) (And.intro (HF9.out.2.2.2.1.below hb10) trivial))))
  clear HF9
  clear hb10
  obtain ⟨w11, hw⟩ : ∃ w11, w11 = w10.alloc (.cells (bvs a1).toArray 34) := ⟨_, rfl⟩
  have hb11 : Below w10.heap.size w10 w11 := by rw [hw]; exact below_alloc _ _
  have hn11 : BArr w11 w10.heap.size 34 a1 := by rw [hw]; exact BArr.new _ _ _
  have HW := Lib.hid hw
  clear hw
  go_wp2_with (with_reducible refine wpList_store_new w10 _ (by simp) rfl (.tmp 12) (.tmp 53) rfl rfl a1 hal rfl ?_; rw [← HW.out])
  clear HW
  obtain ⟨g11, hg11⟩ : ∃ g, w10.heap.size = g := ⟨_, rfl⟩
  rw [hg11] at hn11
  have HF11 := Lib.hid (And.intro (HF10.out.1.below hb11) (And.intro (HF10.out.2.1.below hb11) (And.intro (HF10.out.2.2.1.below hb11) (And.intro (HF10.out.2.2.2.1.below hb11) (And.intro (hn11) trivial)))))
  clear HF10
  rw [hg11]
  clear hn11 hb11 hg11
  have CT := c_path HF11.out.1.chain (by decide) 0 2 (HK.out.1.below HF11.out.1.bel) (HK.out.2.below HF11.out.1.bel)
  rw [two_pathN, two_path, HE.out.2.2, two_pe] at CT
  have C1 := Lib.hid CT
  clear CT
  go_wp2_with fail
  refine C1.out.mono ?_
  rintro e w12 ⟨A12, d12, rfl, ho12, hb12⟩
  clear C1
  have HF12 := Lib.hid (And.intro (HF11.out.1.below hb12) (And.intro (HF11.out.2.1.below hb12) (And.intro (HF11.out.2.2.1.below hb12) (And.intro (HF11.out.2.2.2.1.below hb12) (And.intro (HF11.out.2.2.2.2.1.below hb12) (And.intro (InS.of_own (ys := b1) (A := A12) (n := 1) (c := d12) ho12) trivial))))))
  clear HF11
  clear ho12 hb12
  have CT := c_link HF12.out.1.chain (by decide) 1 2 (HK.out.1.below HF12.out.1.bel) (HK.out.2.below HF12.out.1.bel)
  rw [two_linkN, two_link, HE.out.2.2, two_le] at CT
  have C1 := Lib.hid CT
  clear CT
  go_wp2_with fail
  refine C1.out.mono ?_
  rintro e w13 ⟨A13, d13, rfl, ho13, hb13⟩
  clear C1
  have HF13 := Lib.hid (And.intro (HF12.out.1.below hb13) (And.intro (HF12.out.2.1.below hb13) (And.intro (HF12.out.2.2.1.below hb13) (And.intro (HF12.out.2.2.2.1.below hb13) (And.intro (HF12.out.2.2.2.2.1.below hb13) (And.intro (HF12.out.2.2.2.2.2.1.below hb13) (And.intro (InS.of_own (ys := b1) (A := A13) (n := 1) (c := d13) ho13) trivial)))))))
  clear HF12
  clear ho13 hb13
  have CT := c_link HF13.out.1.chain (by decide) 0 2 (HK.out.1.below HF13.out.1.bel) (HK.out.2.below HF13.out.1.bel)
  rw [two_no, two_ln] at CT
  have C1 := Lib.hid CT
  clear CT
  go_wp2_with fail
  refine C1.out.mono ?_
  rintro e w14 ⟨A14, d14, rfl, ho14, hb14⟩
  clear C1
  have HF14 := Lib.hid (And.intro (HF13.out.1.below hb14) (And.intro (HF13.out.2.1.below hb14) (And.intro (HF13.out.2.2.1.below hb14) (And.intro (HF13.out.2.2.2.1.below hb14) (And.intro (HF13.out.2.2.2.2.1.below hb14) (And.intro (HF13.out.2.2.2.2.2.1.below hb14) (And.intro (HF13.out.2.2.2.2.2.2.1.below hb14) trivial)))))))
  clear HF13
  clear ho14 hb14
  have kl := hlit_one 98 w14
  have CT := leaf_any (some ⟨w14.heap.size, 0, none⟩) 1 1 [98] _ (hcame_one 98 (by omega) w14) (HK.out.1.below (below_on HF14.out.1.bel (Nat.le_refl _) (below_alloc w14 _))) (HK.out.2.below (below_on HF14.out.1.bel (Nat.le_refl _) (below_alloc w14 _))) (by omega)
  rw [HE.out.2.2] at CT
  have C1 := Lib.hid CT
  clear CT
  go_wp2_with fail
  refine C1.out.mono ?_
  rintro e w15 ⟨rfl, hb⟩
  have hb15 := below_on (below_alloc w14 (.cells #[.int .u8 ((98 : Nat) : Int)] 5 (1, 2))) (Nat.le_refl _) hb
  clear C1 kl hb
  have HF15 := Lib.hid (And.intro (HF14.out.1.below hb15) (And.intro (HF14.out.2.1.below hb15) (And.intro (HF14.out.2.2.1.below hb15) (And.intro (HF14.out.2.2.2.1.below hb15) (And.intro (HF14.out.2.2.2.2.1.below hb15) (And.intro (HF14.out.2.2.2.2.2.1.below hb15) (And.intro (HF14.out.2.2.2.2.2.2.1.below hb15) trivial)))))))
  clear HF14
  clear hb15
  obtain ⟨w16, hw⟩ : ∃ w16, w16 = w15.alloc (.cells (bvs b1).toArray 34) := ⟨_, rfl⟩
  have hb16 : Below w15.heap.size w15 w16 := by rw [hw]; exact below_alloc _ _
  have hn16 : BArr w16 w15.heap.size 34 b1 := by rw [hw]; exact BArr.new _ _ _
  have HW := Lib.hid hw
  clear hw
  go_upto_region 13 with (with_reducible refine wpList_store_new w15 _ (by simp) rfl (.tmp 20) (.tmp 72) rfl rfl b1 hbl rfl ?_; rw [← HW.out])
  clear HW
  obtain ⟨g16, hg16⟩ : ∃ g, w15.heap.size = g := ⟨_, rfl⟩
  rw [hg16] at hn16
  have HF16 := Lib.hid (And.intro (HF15.out.1.below hb16) (And.intro (HF15.out.2.1.below hb16) (And.intro (HF15.out.2.2.1.below hb16) (And.intro (HF15.out.2.2.2.1.below hb16) (And.intro (HF15.out.2.2.2.2.1.below hb16) (And.intro (HF15.out.2.2.2.2.2.1.below hb16) (And.intro (HF15.out.2.2.2.2.2.2.1.below hb16) (And.intro (hn16) trivial))))))))
  clear HF15
  rw [hg16]
  clear hn16 hb16 hg16
  have CS := Lib.hid (fun (W : World) (hW : Below w16.heap.size w16 W) => (c_size (HF16.out.1.below hW).chain).mono (R' := fun e w' => e = .returned (.int .u64 2) ∧ Below w16.heap.size w16 w') fun e w' ⟨he, hw⟩ => ⟨he, by rw [hw]; exact hW⟩)
  have HIX := Lib.hid HF16.out.2.1
  have K8 := Lib.hid (fun (W : World) (hW : Below w16.heap.size w16 W) => (HF16.out.2.2.1.below hW).at_)
  have K12 := Lib.hid (fun (W : World) (hW : Below w16.heap.size w16 W) => (HF16.out.2.2.2.2.1.below hW).at_)
  have K20 := Lib.hid (fun (W : World) (hW : Below w16.heap.size w16 W) => (HF16.out.2.2.2.2.2.2.2.1.below hW).at_)
  have P14 := Lib.hid HF16.out.2.2.2.2.2.1
  have Q16 := Lib.hid HF16.out.2.2.2.2.2.2.1
  have CL := Lib.hid (fun (W : World) (hW : Below w16.heap.size w16 W) => (leaf_any (some ⟨W.heap.size, 0, none⟩) 1 1 [97] _ (hcame_one 97 (by omega) W) (HK.out.1.below (below_on (below_on HF16.out.1.bel (Nat.le_refl _) hW) (Nat.le_refl _) (below_alloc W _))) (HK.out.2.below (below_on (below_on HF16.out.1.bel (Nat.le_refl _) hW) (Nat.le_refl _) (below_alloc W _))) (by omega)).mono (R' := fun e w' => e = .returned (sv a1) ∧ Below w16.heap.size w16 w') fun e w' ⟨he, hb⟩ => ⟨by rw [he, HE.out.2.1], below_on (below_on hW (Nat.le_refl _) (below_alloc W _)) (Nat.le_refl _) hb⟩)
  have BL := Lib.hid (fun (W : World) (hW : Below w16.heap.size w16 W) => below_on HF16.out.1.bel (Nat.le_refl _) hW)
  clear HF16
  refine wp_region_held_drew (S := fun W => Below w16.heap.size w16 W) (by kernel_rfl) ((Below.refl _ _).drew) (fun hT0 => ?_)
  change wpAnyH _ _ _ _ _ _ _ _ w16.drew
  generalize w16.drew = WD at hT0 ⊢
  refine' wpAnyH_take (i := 0) (oi := _) (v := _) ?hir0 (by kernel_rfl) ?hfr0 ?hrr0 ?hQr0 ?hyr0 hT0 ?restr0
  case hir0 => (simp only [List.getElem?_toArray]; rfl)
  case hfr0 => kernel_rfl
  case hrr0 => kernel_rfl
  case hQr0 => exact fun _ _ _ h => h
  case hyr0 => refine Or.inl ⟨by rfl, ?_⟩; intro W hSw; go_simp; try with_reducible rfl
  try simp only [Act.put, List.setIfInBounds_toArray, List.set_cons_zero, List.set_cons_succ]
  refine' wpAnyH_take (i := 1) (oi := _) (v := _) ?hir1 (by kernel_rfl) ?hfr1 ?hrr1 ?hQr1 ?hyr1 hT0 ?restr1
  case hir1 => (simp only [List.getElem?_toArray]; rfl)
  case hfr1 => kernel_rfl
  case hrr1 => kernel_rfl
  case hQr1 => exact fun _ _ _ h => h
  case hyr1 => refine Or.inl ⟨by rfl, ?_⟩; intro W hSw; go_simp; try with_reducible rfl
  try simp only [Act.put, List.setIfInBounds_toArray, List.set_cons_zero, List.set_cons_succ]
  refine' wpAnyH_take (i := 2) (oi := _) (v := _) ?hir2 (by kernel_rfl) ?hfr2 ?hrr2 ?hQr2 ?hyr2 hT0 ?restr2
  case hir2 => (simp only [List.getElem?_toArray]; rfl)
  case hfr2 => kernel_rfl
  case hrr2 => kernel_rfl
  case hQr2 => exact fun _ _ _ h => h
  case hyr2 => refine Or.inl ⟨by rfl, ?_⟩; intro W hSw; go_simp; try with_reducible rfl
  try simp only [Act.put, List.setIfInBounds_toArray, List.set_cons_zero, List.set_cons_succ]
  refine' wpAnyH_take (i := 3) (oi := _) (v := _) ?hir3 (by kernel_rfl) ?hfr3 ?hrr3 ?hQr3 ?hyr3 hT0 ?restr3
  case hir3 => (simp only [List.getElem?_toArray]; rfl)
  case hfr3 => kernel_rfl
  case hrr3 => kernel_rfl
  case hQr3 => exact fun _ _ _ h => h
  case hyr3 => refine Or.inl ⟨by rfl, ?_⟩; intro W hSw; go_simp; try with_reducible rfl
  try simp only [Act.put, List.setIfInBounds_toArray, List.set_cons_zero, List.set_cons_succ]
  refine' wpAnyH_take (i := 4) (oi := _) (v := _) ?hir4 (by kernel_rfl) ?hfr4 ?hrr4 ?hQr4 ?hyr4 hT0 ?restr4
  case hir4 => (simp only [List.getElem?_toArray]; rfl)
  case hfr4 => kernel_rfl
  case hrr4 => kernel_rfl
  case hQr4 => exact fun _ _ _ h => h
  case hyr4 => refine Or.inl ⟨by rfl, ?_⟩; intro W hSw; go_simp; try with_reducible rfl
  try simp only [Act.put, List.setIfInBounds_toArray, List.set_cons_zero, List.set_cons_succ]
  refine' wpAnyH_take (i := 5) (oi := _) (v := _) ?hir5 (by kernel_rfl) ?hfr5 ?hrr5 ?hQr5 ?hyr5 hT0 ?restr5
  case hir5 => (simp only [List.getElem?_toArray]; rfl)
  case hfr5 => kernel_rfl
  case hrr5 => kernel_rfl
  case hQr5 => exact fun _ _ _ h => h
  case hyr5 => refine Or.inl ⟨by rfl, ?_⟩; intro W hSw; go_simp; try with_reducible rfl
  try simp only [Act.put, List.setIfInBounds_toArray, List.set_cons_zero, List.set_cons_succ]
  refine' wpAnyH_take (i := 6) (oi := _) (v := _) ?hir6 (by kernel_rfl) ?hfr6 ?hrr6 ?hQr6 ?hyr6 hT0 ?restr6
  case hir6 => (simp only [List.getElem?_toArray]; rfl)
  case hfr6 => kernel_rfl
  case hrr6 => kernel_rfl
  case hQr6 => exact fun _ _ _ h => h
  case hyr6 => refine Or.inl ⟨by rfl, ?_⟩; intro W hSw; go_simp; try with_reducible rfl
  try simp only [Act.put, List.setIfInBounds_toArray, List.set_cons_zero, List.set_cons_succ]
  refine' wpAnyH_take (i := 7) (oi := _) (v := _) ?hir7 (by kernel_rfl) ?hfr7 ?hrr7 ?hQr7 ?hyr7 hT0 ?restr7
  case hir7 => (simp only [List.getElem?_toArray]; rfl)
  case hfr7 => kernel_rfl
  case hrr7 => kernel_rfl
  case hQr7 => exact fun _ _ _ h => h
  case hyr7 => refine Or.inl ⟨by rfl, ?_⟩; intro W hSw; go_simp; try with_reducible rfl
  try simp only [Act.put, List.setIfInBounds_toArray, List.set_cons_zero, List.set_cons_succ]
  refine wpAnyH_ready (rs := [8]) (by kernel_rfl) (by simp) ?_
  refine' AllReadyH.cons (o := _) ?hir8 (fun K hK => ?_) AllReadyH.nil
  case hir8 => (simp only [List.getElem?_toArray]; rfl)
  go_simp
  go_at_call 14
  refine (CS.out _ hT0).mono ?_
  rintro e Wr2 ⟨rfl, hBr1⟩
  refine hK.out _ _ hBr1 (fun _ => ?_)
  clear hK K
  try simp only [Act.put, List.setIfInBounds_toArray, List.set_cons_zero, List.set_cons_succ]
  refine' wpAnyH_take (i := 9) (oi := _) (v := _) ?hir9 (by kernel_rfl) ?hfr9 ?hrr9 ?hQr9 ?hyr9 hBr1 ?restr9
  case hir9 => (simp only [List.getElem?_toArray]; rfl)
  case hfr9 => kernel_rfl
  case hrr9 => kernel_rfl
  case hQr9 => exact fun _ _ _ h => h
  case hyr9 => refine Or.inl ⟨by rfl, ?_⟩; intro W hSw; go_simp; try with_reducible rfl
  try simp only [Act.put, List.setIfInBounds_toArray, List.set_cons_zero, List.set_cons_succ]
  refine' wpAnyH_take (i := 10) (oi := _) (v := _) ?hir10 (by kernel_rfl) ?hfr10 ?hrr10 ?hQr10 ?hyr10 hBr1 ?restr10
  case hir10 => (simp only [List.getElem?_toArray]; rfl)
  case hfr10 => kernel_rfl
  case hrr10 => kernel_rfl
  case hQr10 => exact fun _ _ _ h => h
  case hyr10 => refine Or.inl ⟨by rfl, ?_⟩; intro W hSw; go_simp; try with_reducible rfl
  try simp only [Act.put, List.setIfInBounds_toArray, List.set_cons_zero, List.set_cons_succ]
  refine' wpAnyH_take (i := 11) (oi := _) (v := _) ?hir11 (by kernel_rfl) ?hfr11 ?hrr11 ?hQr11 ?hyr11 hBr1 ?restr11
  case hir11 => (simp only [List.getElem?_toArray]; rfl)
  case hfr11 => kernel_rfl
  case hrr11 => kernel_rfl
  case hQr11 => exact fun _ _ _ h => h
  case hyr11 => refine Or.inl ⟨by rfl, ?_⟩; intro W hSw; go_simp; try with_reducible rfl
  try simp only [Act.put, List.setIfInBounds_toArray, List.set_cons_zero, List.set_cons_succ]
  refine' wpAnyH_take (i := 12) (oi := _) (v := _) ?hir12 (by kernel_rfl) ?hfr12 ?hrr12 ?hQr12 ?hyr12 hBr1 ?restr12
  case hir12 => (simp only [List.getElem?_toArray]; rfl)
  case hfr12 => kernel_rfl
  case hrr12 => kernel_rfl
  case hQr12 => exact fun _ _ _ h => h
  case hyr12 => refine Or.inl ⟨by rfl, ?_⟩; intro W hSw; go_simp; try with_reducible rfl
  try simp only [Act.put, List.setIfInBounds_toArray, List.set_cons_zero, List.set_cons_succ]
  refine' wpAnyH_take (i := 13) (oi := _) (v := _) ?hir13 (by kernel_rfl) ?hfr13 ?hrr13 ?hQr13 ?hyr13 hBr1 ?restr13
  case hir13 => (simp only [List.getElem?_toArray]; rfl)
  case hfr13 => kernel_rfl
  case hrr13 => kernel_rfl
  case hQr13 => exact fun _ _ _ h => h
  case hyr13 => refine Or.inl ⟨by rfl, ?_⟩; intro W hSw; go_simp; try with_reducible rfl
  try simp only [Act.put, List.setIfInBounds_toArray, List.set_cons_zero, List.set_cons_succ]
  refine' wpAnyH_take (i := 14) (oi := _) (v := _) ?hir14 (by kernel_rfl) ?hfr14 ?hrr14 ?hQr14 ?hyr14 hBr1 ?restr14
  case hir14 => (simp only [List.getElem?_toArray]; rfl)
  case hfr14 => kernel_rfl
  case hrr14 => kernel_rfl
  case hQr14 => exact fun _ _ _ h => h
  case hyr14 => refine Or.inl ⟨by rfl, ?_⟩; intro W hSw; go_simp; try with_reducible rfl
  try simp only [Act.put, List.setIfInBounds_toArray, List.set_cons_zero, List.set_cons_succ]
  refine' wpAnyH_take (i := 15) (oi := _) (v := _) ?hir15 (by kernel_rfl) ?hfr15 ?hrr15 ?hQr15 ?hyr15 hBr1 ?restr15
  case hir15 => (simp only [List.getElem?_toArray]; rfl)
  case hfr15 => kernel_rfl
  case hrr15 => kernel_rfl
  case hQr15 => exact fun _ _ _ h => h
  case hyr15 => refine Or.inl ⟨by rfl, ?_⟩; intro W hSw; go_simp; try with_reducible rfl
  try simp only [Act.put, List.setIfInBounds_toArray, List.set_cons_zero, List.set_cons_succ]
  refine' wpAnyH_take (i := 16) (oi := _) (v := _) ?hir16 (by kernel_rfl) ?hfr16 ?hrr16 ?hQr16 ?hyr16 hBr1 ?restr16
  case hir16 => (simp only [List.getElem?_toArray]; rfl)
  case hfr16 => kernel_rfl
  case hrr16 => kernel_rfl
  case hQr16 => exact fun _ _ _ h => h
  case hyr16 => refine Or.inl ⟨by rfl, ?_⟩; intro W hSw; go_simp; try with_reducible rfl
  try simp only [Act.put, List.setIfInBounds_toArray, List.set_cons_zero, List.set_cons_succ]
  refine' wpAnyH_take (i := 17) (oi := _) (v := .string { data := #[98] }) ?hir17 (by kernel_rfl) ?hfr17 ?hrr17 ?hQr17 ?hyr17 hBr1 ?restr17
  case hir17 => (simp only [List.getElem?_toArray]; rfl)
  case hfr17 => kernel_rfl
  case hrr17 => kernel_rfl
  case hQr17 => exact fun _ _ _ h => h
  case hyr17 => refine Or.inl ⟨by rfl, ?_⟩; intro W hSw; have hcx := conv_str (HIX.out.below hSw) (by decide) d4; rw [str_b] at hcx; go_simp; try with_reducible rfl
  try simp only [Act.put, List.setIfInBounds_toArray, List.set_cons_zero, List.set_cons_succ]
  refine' wpAnyH_take (i := 18) (oi := _) (v := _) ?hir18 (by kernel_rfl) ?hfr18 ?hrr18 ?hQr18 ?hyr18 hBr1 ?restr18
  case hir18 => (simp only [List.getElem?_toArray]; rfl)
  case hfr18 => kernel_rfl
  case hrr18 => kernel_rfl
  case hQr18 => exact fun _ _ _ h => h
  case hyr18 => refine Or.inl ⟨by rfl, ?_⟩; intro W hSw; go_simp; try with_reducible rfl
  try simp only [Act.put, List.setIfInBounds_toArray, List.set_cons_zero, List.set_cons_succ]
  refine' wpAnyH_take (i := 19) (oi := _) (v := _) ?hir19 (by kernel_rfl) ?hfr19 ?hrr19 ?hQr19 ?hyr19 hBr1 ?restr19
  case hir19 => (simp only [List.getElem?_toArray]; rfl)
  case hfr19 => kernel_rfl
  case hrr19 => kernel_rfl
  case hQr19 => exact fun _ _ _ h => h
  case hyr19 => refine Or.inl ⟨by rfl, ?_⟩; intro W hSw; go_simp; try with_reducible rfl
  try simp only [Act.put, List.setIfInBounds_toArray, List.set_cons_zero, List.set_cons_succ]
  refine' wpAnyH_take (i := 20) (oi := _) (v := _) ?hir20 (by kernel_rfl) ?hfr20 ?hrr20 ?hQr20 ?hyr20 hBr1 ?restr20
  case hir20 => (simp only [List.getElem?_toArray]; rfl)
  case hfr20 => kernel_rfl
  case hrr20 => kernel_rfl
  case hQr20 => exact fun _ _ _ h => h
  case hyr20 => refine Or.inl ⟨by rfl, ?_⟩; intro W hSw; go_simp; try with_reducible rfl
  try simp only [Act.put, List.setIfInBounds_toArray, List.set_cons_zero, List.set_cons_succ]
  refine' wpAnyH_take (i := 21) (oi := _) (v := _) ?hir21 (by kernel_rfl) ?hfr21 ?hrr21 ?hQr21 ?hyr21 hBr1 ?restr21
  case hir21 => (simp only [List.getElem?_toArray]; rfl)
  case hfr21 => kernel_rfl
  case hrr21 => kernel_rfl
  case hQr21 => exact fun _ _ _ h => h
  case hyr21 => refine Or.inl ⟨by rfl, ?_⟩; intro W hSw; go_simp; try with_reducible rfl
  try simp only [Act.put, List.setIfInBounds_toArray, List.set_cons_zero, List.set_cons_succ]
  refine' wpAnyH_take (i := 22) (oi := _) (v := _) ?hir22 (by kernel_rfl) ?hfr22 ?hrr22 ?hQr22 ?hyr22 hBr1 ?restr22
  case hir22 => (simp only [List.getElem?_toArray]; rfl)
  case hfr22 => kernel_rfl
  case hrr22 => kernel_rfl
  case hQr22 => exact fun _ _ _ h => h
  case hyr22 => refine Or.inl ⟨by rfl, ?_⟩; intro W hSw; go_simp; try with_reducible rfl
  try simp only [Act.put, List.setIfInBounds_toArray, List.set_cons_zero, List.set_cons_succ]
  refine' wpAnyH_take (i := 23) (oi := _) (v := _) ?hir23 (by kernel_rfl) ?hfr23 ?hrr23 ?hQr23 ?hyr23 hBr1 ?restr23
  case hir23 => (simp only [List.getElem?_toArray]; rfl)
  case hfr23 => kernel_rfl
  case hrr23 => kernel_rfl
  case hQr23 => exact fun _ _ _ h => h
  case hyr23 => refine Or.inl ⟨by rfl, ?_⟩; intro W hSw; go_simp; try with_reducible rfl
  try simp only [Act.put, List.setIfInBounds_toArray, List.set_cons_zero, List.set_cons_succ]
  refine' wpAnyH_take (i := 24) (oi := _) (v := _) ?hir24 (by kernel_rfl) ?hfr24 ?hrr24 ?hQr24 ?hyr24 hBr1 ?restr24
  case hir24 => (simp only [List.getElem?_toArray]; rfl)
  case hfr24 => kernel_rfl
  case hrr24 => kernel_rfl
  case hQr24 => exact fun _ _ _ h => h
  case hyr24 => refine Or.inl ⟨by rfl, ?_⟩; intro W hSw; go_simp; try with_reducible rfl
  try simp only [Act.put, List.setIfInBounds_toArray, List.set_cons_zero, List.set_cons_succ]
  refine' wpAnyH_take (i := 25) (oi := _) (v := _) ?hir25 (by kernel_rfl) ?hfr25 ?hrr25 ?hQr25 ?hyr25 hBr1 ?restr25
  case hir25 => (simp only [List.getElem?_toArray]; rfl)
  case hfr25 => kernel_rfl
  case hrr25 => kernel_rfl
  case hQr25 => exact fun _ _ _ h => h
  case hyr25 => refine Or.inl ⟨by rfl, ?_⟩; intro W hSw; go_simp; try with_reducible rfl
  try simp only [Act.put, List.setIfInBounds_toArray, List.set_cons_zero, List.set_cons_succ]
  refine' wpAnyH_take (i := 26) (oi := _) (v := _) ?hir26 (by kernel_rfl) ?hfr26 ?hrr26 ?hQr26 ?hyr26 hBr1 ?restr26
  case hir26 => (simp only [List.getElem?_toArray]; rfl)
  case hfr26 => kernel_rfl
  case hrr26 => kernel_rfl
  case hQr26 => exact fun _ _ _ h => h
  case hyr26 => refine Or.inl ⟨by rfl, ?_⟩; intro W hSw; go_simp; try with_reducible rfl
  try simp only [Act.put, List.setIfInBounds_toArray, List.set_cons_zero, List.set_cons_succ]
  refine' wpAnyH_take (i := 27) (oi := _) (v := _) ?hir27 (by kernel_rfl) ?hfr27 ?hrr27 ?hQr27 ?hyr27 hBr1 ?restr27
  case hir27 => (simp only [List.getElem?_toArray]; rfl)
  case hfr27 => kernel_rfl
  case hrr27 => kernel_rfl
  case hQr27 => exact fun _ _ _ h => h
  case hyr27 => refine Or.inl ⟨by rfl, ?_⟩; intro W hSw; go_simp; try with_reducible rfl
  try simp only [Act.put, List.setIfInBounds_toArray, List.set_cons_zero, List.set_cons_succ]
  refine' wpAnyH_take (i := 28) (oi := _) (v := _) ?hir28 (by kernel_rfl) ?hfr28 ?hrr28 ?hQr28 ?hyr28 hBr1 ?restr28
  case hir28 => (simp only [List.getElem?_toArray]; rfl)
  case hfr28 => kernel_rfl
  case hrr28 => kernel_rfl
  case hQr28 => exact fun _ _ _ h => h
  case hyr28 => refine Or.inl ⟨by rfl, ?_⟩; intro W hSw; go_simp; try with_reducible rfl
  try simp only [Act.put, List.setIfInBounds_toArray, List.set_cons_zero, List.set_cons_succ]
  refine' wpAnyH_take (i := 29) (oi := _) (v := sv (z)) ?hir29 (by kernel_rfl) ?hfr29 ?hrr29 ?hQr29 ?hyr29 hBr1 ?restr29
  case hir29 => (simp only [List.getElem?_toArray]; rfl)
  case hfr29 => kernel_rfl
  case hrr29 => kernel_rfl
  case hQr29 => exact fun _ _ _ h => h
  case hyr29 => refine yields_sum ?_ (.tmp 8) rfl ⟨g7, 0, none⟩ rfl z hzl (fun W hSw => (K8.out W hSw)); rfl
  try simp only [Act.put, List.setIfInBounds_toArray, List.set_cons_zero, List.set_cons_succ]
  refine' wpAnyH_take (i := 30) (oi := _) (v := _) ?hir30 (by kernel_rfl) ?hfr30 ?hrr30 ?hQr30 ?hyr30 hBr1 ?restr30
  case hir30 => (simp only [List.getElem?_toArray]; rfl)
  case hfr30 => kernel_rfl
  case hrr30 => kernel_rfl
  case hQr30 => exact fun _ _ _ h => h
  case hyr30 => refine Or.inl ⟨by rfl, ?_⟩; intro W hSw; go_simp; try with_reducible rfl
  try simp only [Act.put, List.setIfInBounds_toArray, List.set_cons_zero, List.set_cons_succ]
  refine' wpAnyH_take (i := 31) (oi := _) (v := _) ?hir31 (by kernel_rfl) ?hfr31 ?hrr31 ?hQr31 ?hyr31 hBr1 ?restr31
  case hir31 => (simp only [List.getElem?_toArray]; rfl)
  case hfr31 => kernel_rfl
  case hrr31 => kernel_rfl
  case hQr31 => exact fun _ _ _ h => h
  case hyr31 => refine Or.inl ⟨by rfl, ?_⟩; intro W hSw; go_simp; try with_reducible rfl
  try simp only [Act.put, List.setIfInBounds_toArray, List.set_cons_zero, List.set_cons_succ]
  refine' wpAnyH_take (i := 32) (oi := _) (v := _) ?hir32 (by kernel_rfl) ?hfr32 ?hrr32 ?hQr32 ?hyr32 hBr1 ?restr32
  case hir32 => (simp only [List.getElem?_toArray]; rfl)
  case hfr32 => kernel_rfl
  case hrr32 => kernel_rfl
  case hQr32 => exact fun _ _ _ h => h
  case hyr32 => refine Or.inl ⟨by rfl, ?_⟩; intro W hSw; go_simp; try with_reducible rfl
  try simp only [Act.put, List.setIfInBounds_toArray, List.set_cons_zero, List.set_cons_succ]
  refine' wpAnyH_take (i := 33) (oi := _) (v := _) ?hir33 (by kernel_rfl) ?hfr33 ?hrr33 ?hQr33 ?hyr33 hBr1 ?restr33
  case hir33 => (simp only [List.getElem?_toArray]; rfl)
  case hfr33 => kernel_rfl
  case hrr33 => kernel_rfl
  case hQr33 => exact fun _ _ _ h => h
  case hyr33 => refine Or.inl ⟨by rfl, ?_⟩; intro W hSw; go_simp; try with_reducible rfl
  try simp only [Act.put, List.setIfInBounds_toArray, List.set_cons_zero, List.set_cons_succ]
  refine' wpAnyH_take (i := 34) (oi := _) (v := _) ?hir34 (by kernel_rfl) ?hfr34 ?hrr34 ?hQr34 ?hyr34 hBr1 ?restr34
  case hir34 => (simp only [List.getElem?_toArray]; rfl)
  case hfr34 => kernel_rfl
  case hrr34 => kernel_rfl
  case hQr34 => exact fun _ _ _ h => h
  case hyr34 => refine Or.inl ⟨by rfl, ?_⟩; intro W hSw; go_simp; try with_reducible rfl
  try simp only [Act.put, List.setIfInBounds_toArray, List.set_cons_zero, List.set_cons_succ]
  refine' wpAnyH_take (i := 35) (oi := _) (v := _) ?hir35 (by kernel_rfl) ?hfr35 ?hrr35 ?hQr35 ?hyr35 hBr1 ?restr35
  case hir35 => (simp only [List.getElem?_toArray]; rfl)
  case hfr35 => kernel_rfl
  case hrr35 => kernel_rfl
  case hQr35 => exact fun _ _ _ h => h
  case hyr35 => refine Or.inl ⟨by rfl, ?_⟩; intro W hSw; go_simp; try with_reducible rfl
  try simp only [Act.put, List.setIfInBounds_toArray, List.set_cons_zero, List.set_cons_succ]
  refine' wpAnyH_take (i := 36) (oi := _) (v := _) ?hir36 (by kernel_rfl) ?hfr36 ?hrr36 ?hQr36 ?hyr36 hBr1 ?restr36
  case hir36 => (simp only [List.getElem?_toArray]; rfl)
  case hfr36 => kernel_rfl
  case hrr36 => kernel_rfl
  case hQr36 => exact fun _ _ _ h => h
  case hyr36 => refine Or.inl ⟨by rfl, ?_⟩; intro W hSw; go_simp; try with_reducible rfl
  try simp only [Act.put, List.setIfInBounds_toArray, List.set_cons_zero, List.set_cons_succ]
  refine' wpAnyH_take (i := 37) (oi := _) (v := _) ?hir37 (by kernel_rfl) ?hfr37 ?hrr37 ?hQr37 ?hyr37 hBr1 ?restr37
  case hir37 => (simp only [List.getElem?_toArray]; rfl)
  case hfr37 => kernel_rfl
  case hrr37 => kernel_rfl
  case hQr37 => exact fun _ _ _ h => h
  case hyr37 => refine Or.inl ⟨by rfl, ?_⟩; intro W hSw; go_simp; try with_reducible rfl
  try simp only [Act.put, List.setIfInBounds_toArray, List.set_cons_zero, List.set_cons_succ]
  refine' wpAnyH_take (i := 38) (oi := _) (v := _) ?hir38 (by kernel_rfl) ?hfr38 ?hrr38 ?hQr38 ?hyr38 hBr1 ?restr38
  case hir38 => (simp only [List.getElem?_toArray]; rfl)
  case hfr38 => kernel_rfl
  case hrr38 => kernel_rfl
  case hQr38 => exact fun _ _ _ h => h
  case hyr38 => refine Or.inl ⟨by rfl, ?_⟩; intro W hSw; go_simp; try with_reducible rfl
  try simp only [Act.put, List.setIfInBounds_toArray, List.set_cons_zero, List.set_cons_succ]
  refine' wpAnyH_take (i := 39) (oi := _) (v := _) ?hir39 (by kernel_rfl) ?hfr39 ?hrr39 ?hQr39 ?hyr39 hBr1 ?restr39
  case hir39 => (simp only [List.getElem?_toArray]; rfl)
  case hfr39 => kernel_rfl
  case hrr39 => kernel_rfl
  case hQr39 => exact fun _ _ _ h => h
  case hyr39 => refine Or.inl ⟨by rfl, ?_⟩; intro W hSw; go_simp; try with_reducible rfl
  try simp only [Act.put, List.setIfInBounds_toArray, List.set_cons_zero, List.set_cons_succ]
  refine' wpAnyH_take (i := 40) (oi := _) (v := _) ?hir40 (by kernel_rfl) ?hfr40 ?hrr40 ?hQr40 ?hyr40 hBr1 ?restr40
  case hir40 => (simp only [List.getElem?_toArray]; rfl)
  case hfr40 => kernel_rfl
  case hrr40 => kernel_rfl
  case hQr40 => exact fun _ _ _ h => h
  case hyr40 => refine Or.inl ⟨by rfl, ?_⟩; intro W hSw; go_simp; try with_reducible rfl
  try simp only [Act.put, List.setIfInBounds_toArray, List.set_cons_zero, List.set_cons_succ]
  refine' wpAnyH_take (i := 41) (oi := _) (v := _) ?hir41 (by kernel_rfl) ?hfr41 ?hrr41 ?hQr41 ?hyr41 hBr1 ?restr41
  case hir41 => (simp only [List.getElem?_toArray]; rfl)
  case hfr41 => kernel_rfl
  case hrr41 => kernel_rfl
  case hQr41 => exact fun _ _ _ h => h
  case hyr41 => refine Or.inl ⟨by rfl, ?_⟩; intro W hSw; go_simp; try with_reducible rfl
  try simp only [Act.put, List.setIfInBounds_toArray, List.set_cons_zero, List.set_cons_succ]
  refine' wpAnyH_take (i := 42) (oi := _) (v := sv (a1)) ?hir42 (by kernel_rfl) ?hfr42 ?hrr42 ?hQr42 ?hyr42 hBr1 ?restr42
  case hir42 => (simp only [List.getElem?_toArray]; rfl)
  case hfr42 => kernel_rfl
  case hrr42 => kernel_rfl
  case hQr42 => exact fun _ _ _ h => h
  case hyr42 => refine yields_sum ?_ (.tmp 12) rfl ⟨g11, 0, none⟩ rfl a1 hal (fun W hSw => (K12.out W hSw)); rfl
  try simp only [Act.put, List.setIfInBounds_toArray, List.set_cons_zero, List.set_cons_succ]
  refine wpAnyH_ready (rs := [43]) (by kernel_rfl) (by simp) ?_
  refine' AllReadyH.cons (o := _) ?hir43 (fun K hK => ?_) AllReadyH.nil
  case hir43 => (simp only [List.getElem?_toArray]; rfl)
  go_simp
  have hLa := Below.alloc hBr1 (Below.size hBr1) (.cells #[.int .u8 97] 5)
  refine hK.out _ _ hLa (fun _ => ?_)
  clear hK K
  try simp only [Act.put, List.setIfInBounds_toArray, List.set_cons_zero, List.set_cons_succ]
  refine wpAnyH_ready (rs := [44]) (by kernel_rfl) (by simp) ?_
  refine' AllReadyH.cons (o := _) ?hir44 (fun K hK => ?_) AllReadyH.nil
  case hir44 => (simp only [List.getElem?_toArray]; rfl)
  have kl := hlit_one 97 Wr2
  go_simp
  have hLb := Below.alloc hBr1 (Below.size hBr1) (.cells #[.int .u8 ((97 : Nat) : Int)] 5 (1, 2))
  refine hK.out _ _ hLb (fun _ => ?_)
  clear hK K kl
  try simp only [Act.put, List.setIfInBounds_toArray, List.set_cons_zero, List.set_cons_succ]
  refine wpAnyH_ready (rs := [45]) (by kernel_rfl) (by simp) ?_
  refine' AllReadyH.cons (o := _) ?hir45 (fun K hK => ?_) AllReadyH.nil
  case hir45 => (simp only [List.getElem?_toArray]; rfl)
  go_simp
  go_at_call 20
  refine (CL.out _ hBr1).mono ?_
  rintro e WL ⟨rfl, hWL⟩
  refine hK.out _ _ hWL (fun _ => ?_)
  clear hK K hLa hLb
  try simp only [Act.put, List.setIfInBounds_toArray, List.set_cons_zero, List.set_cons_succ]
  refine' wpAnyH_take (i := 46) (oi := _) (v := _) ?hir46 (by kernel_rfl) ?hfr46 ?hrr46 ?hQr46 ?hyr46 hWL ?restr46
  case hir46 => (simp only [List.getElem?_toArray]; rfl)
  case hfr46 => kernel_rfl
  case hrr46 => kernel_rfl
  case hQr46 => exact fun _ _ _ h => h
  case hyr46 => refine Or.inl ⟨by rfl, ?_⟩; intro W hSw; go_simp; try with_reducible rfl
  try simp only [Act.put, List.setIfInBounds_toArray, List.set_cons_zero, List.set_cons_succ]
  refine' wpAnyH_take (i := 47) (oi := _) (v := _) ?hir47 (by kernel_rfl) ?hfr47 ?hrr47 ?hQr47 ?hyr47 hWL ?restr47
  case hir47 => (simp only [List.getElem?_toArray]; rfl)
  case hfr47 => kernel_rfl
  case hrr47 => kernel_rfl
  case hQr47 => exact fun _ _ _ h => h
  case hyr47 => refine Or.inl ⟨by rfl, ?_⟩; intro W hSw; go_simp; try with_reducible rfl
  try simp only [Act.put, List.setIfInBounds_toArray, List.set_cons_zero, List.set_cons_succ]
  refine' wpAnyH_take (i := 48) (oi := _) (v := _) ?hir48 (by kernel_rfl) ?hfr48 ?hrr48 ?hQr48 ?hyr48 hWL ?restr48
  case hir48 => (simp only [List.getElem?_toArray]; rfl)
  case hfr48 => kernel_rfl
  case hrr48 => kernel_rfl
  case hQr48 => exact fun _ _ _ h => h
  case hyr48 => refine Or.inl ⟨by rfl, ?_⟩; intro W hSw; go_simp; try with_reducible rfl
  try simp only [Act.put, List.setIfInBounds_toArray, List.set_cons_zero, List.set_cons_succ]
  refine' wpAnyH_take (i := 49) (oi := _) (v := _) ?hir49 (by kernel_rfl) ?hfr49 ?hrr49 ?hQr49 ?hyr49 hWL ?restr49
  case hir49 => (simp only [List.getElem?_toArray]; rfl)
  case hfr49 => kernel_rfl
  case hrr49 => kernel_rfl
  case hQr49 => exact fun _ _ _ h => h
  case hyr49 => refine Or.inl ⟨by rfl, ?_⟩; intro W hSw; go_simp; try with_reducible rfl
  try simp only [Act.put, List.setIfInBounds_toArray, List.set_cons_zero, List.set_cons_succ]
  refine' wpAnyH_take (i := 50) (oi := _) (v := _) ?hir50 (by kernel_rfl) ?hfr50 ?hrr50 ?hQr50 ?hyr50 hWL ?restr50
  case hir50 => (simp only [List.getElem?_toArray]; rfl)
  case hfr50 => kernel_rfl
  case hrr50 => kernel_rfl
  case hQr50 => exact fun _ _ _ h => h
  case hyr50 => refine Or.inl ⟨by rfl, ?_⟩; intro W hSw; go_simp; try with_reducible rfl
  try simp only [Act.put, List.setIfInBounds_toArray, List.set_cons_zero, List.set_cons_succ]
  refine' wpAnyH_take (i := 51) (oi := _) (v := _) ?hir51 (by kernel_rfl) ?hfr51 ?hrr51 ?hQr51 ?hyr51 hWL ?restr51
  case hir51 => (simp only [List.getElem?_toArray]; rfl)
  case hfr51 => kernel_rfl
  case hrr51 => kernel_rfl
  case hQr51 => exact fun _ _ _ h => h
  case hyr51 => refine Or.inl ⟨by rfl, ?_⟩; intro W hSw; go_simp; try with_reducible rfl
  try simp only [Act.put, List.setIfInBounds_toArray, List.set_cons_zero, List.set_cons_succ]
  refine' wpAnyH_take (i := 52) (oi := _) (v := _) ?hir52 (by kernel_rfl) ?hfr52 ?hrr52 ?hQr52 ?hyr52 hWL ?restr52
  case hir52 => (simp only [List.getElem?_toArray]; rfl)
  case hfr52 => kernel_rfl
  case hrr52 => kernel_rfl
  case hQr52 => exact fun _ _ _ h => h
  case hyr52 => refine Or.inl ⟨by rfl, ?_⟩; intro W hSw; go_simp; try with_reducible rfl
  try simp only [Act.put, List.setIfInBounds_toArray, List.set_cons_zero, List.set_cons_succ]
  refine' wpAnyH_take (i := 53) (oi := _) (v := _) ?hir53 (by kernel_rfl) ?hfr53 ?hrr53 ?hQr53 ?hyr53 hWL ?restr53
  case hir53 => (simp only [List.getElem?_toArray]; rfl)
  case hfr53 => kernel_rfl
  case hrr53 => kernel_rfl
  case hQr53 => exact fun _ _ _ h => h
  case hyr53 => refine Or.inl ⟨by rfl, ?_⟩; intro W hSw; go_simp; try with_reducible rfl
  try simp only [Act.put, List.setIfInBounds_toArray, List.set_cons_zero, List.set_cons_succ]
  refine' wpAnyH_take (i := 54) (oi := _) (v := sv (b1)) ?hir54 (by kernel_rfl) ?hfr54 ?hrr54 ?hQr54 ?hyr54 hWL ?restr54
  case hir54 => (simp only [List.getElem?_toArray]; rfl)
  case hfr54 => kernel_rfl
  case hrr54 => kernel_rfl
  case hQr54 => exact fun _ _ _ h => h
  case hyr54 => refine yields_sum ?_ (.tmp 20) rfl ⟨g16, 0, none⟩ rfl b1 hbl (fun W hSw => (K20.out W hSw)); rfl
  try simp only [Act.put, List.setIfInBounds_toArray, List.set_cons_zero, List.set_cons_succ]
  refine wpAnyH_ready (rs := [55]) (by kernel_rfl) (by simp) ?_
  refine' AllReadyH.cons (o := _) ?hir55 (fun K hK => ?_) AllReadyH.nil
  case hir55 => (simp only [List.getElem?_toArray]; rfl)
  rw [if_pos (by rfl)]
  refine wp_sums _ [b1] 1 rfl rfl (by simp <;> rfl) (by intro s hs; simp at hs; rw [hs]; exact hbl) (by omega) (by omega) ?_
  rw [show [b1].flatten = b1 by simp]
  have hBr3 := Below.alloc hWL (Below.size hWL) (.cells (bvs b1).toArray 34)
  have iL55 : InS (WL.alloc (.cells (bvs b1).toArray 34)) (some ⟨WL.heap.size, 0, none⟩) 1 b1 := ⟨hbl, (In.new' WL b1 34).rd⟩
  refine hK.out _ _ hBr3 (fun _ => ?_)
  clear hK K
  try simp only [Act.put, List.setIfInBounds_toArray, List.set_cons_zero, List.set_cons_succ]
  have CQ56 := Lib.hid (sameSums_yes A12 (some ⟨WL.heap.size, 0, none⟩) 1 d12 1 b1 _ (P14.out.below hBr3) iL55 (by omega))
  refine wpAnyH_ready (rs := [56]) (by kernel_rfl) (by simp) ?_
  refine' AllReadyH.cons (o := _) ?hir56 (fun K hK => ?_) AllReadyH.nil
  case hir56 => (simp only [List.getElem?_toArray]; rfl)
  go_simp
  go_at_call 18
  refine CQ56.out.mono ?_
  rintro e WS56 ⟨rfl, qS, hqS⟩
  have hBr4 : Below w16.heap.size w16 WS56 := by rw [hqS]; exact ⟨hBr3.os, hBr3.tape, hBr3.output, hBr3.size, hBr3.block⟩
  clear hqS
  refine hK.out _ _ hBr4 (fun _ => ?_)
  clear hK K iL55 CQ56
  try simp only [Act.put, List.setIfInBounds_toArray, List.set_cons_zero, List.set_cons_succ]
  refine' wpAnyH_take (i := 57) (oi := _) (v := _) ?hir57 (by kernel_rfl) ?hfr57 ?hrr57 ?hQr57 ?hyr57 hBr4 ?restr57
  case hir57 => (simp only [List.getElem?_toArray]; rfl)
  case hfr57 => kernel_rfl
  case hrr57 => kernel_rfl
  case hQr57 => exact fun _ _ _ h => h
  case hyr57 => refine Or.inl ⟨by rfl, ?_⟩; intro W hSw; go_simp; try with_reducible rfl
  try simp only [Act.put, List.setIfInBounds_toArray, List.set_cons_zero, List.set_cons_succ]
  refine' wpAnyH_take (i := 58) (oi := _) (v := _) ?hir58 (by kernel_rfl) ?hfr58 ?hrr58 ?hQr58 ?hyr58 hBr4 ?restr58
  case hir58 => (simp only [List.getElem?_toArray]; rfl)
  case hfr58 => kernel_rfl
  case hrr58 => kernel_rfl
  case hQr58 => exact fun _ _ _ h => h
  case hyr58 => refine Or.inl ⟨by rfl, ?_⟩; intro W hSw; go_simp; try with_reducible rfl
  try simp only [Act.put, List.setIfInBounds_toArray, List.set_cons_zero, List.set_cons_succ]
  refine' wpAnyH_take (i := 59) (oi := _) (v := _) ?hir59 (by kernel_rfl) ?hfr59 ?hrr59 ?hQr59 ?hyr59 hBr4 ?restr59
  case hir59 => (simp only [List.getElem?_toArray]; rfl)
  case hfr59 => kernel_rfl
  case hrr59 => kernel_rfl
  case hQr59 => exact fun _ _ _ h => h
  case hyr59 => refine Or.inl ⟨by rfl, ?_⟩; intro W hSw; go_simp; try with_reducible rfl
  try simp only [Act.put, List.setIfInBounds_toArray, List.set_cons_zero, List.set_cons_succ]
  refine' wpAnyH_take (i := 60) (oi := _) (v := _) ?hir60 (by kernel_rfl) ?hfr60 ?hrr60 ?hQr60 ?hyr60 hBr4 ?restr60
  case hir60 => (simp only [List.getElem?_toArray]; rfl)
  case hfr60 => kernel_rfl
  case hrr60 => kernel_rfl
  case hQr60 => exact fun _ _ _ h => h
  case hyr60 => refine Or.inl ⟨by rfl, ?_⟩; intro W hSw; go_simp; try with_reducible rfl
  try simp only [Act.put, List.setIfInBounds_toArray, List.set_cons_zero, List.set_cons_succ]
  refine' wpAnyH_take (i := 61) (oi := _) (v := _) ?hir61 (by kernel_rfl) ?hfr61 ?hrr61 ?hQr61 ?hyr61 hBr4 ?restr61
  case hir61 => (simp only [List.getElem?_toArray]; rfl)
  case hfr61 => kernel_rfl
  case hrr61 => kernel_rfl
  case hQr61 => exact fun _ _ _ h => h
  case hyr61 => refine Or.inl ⟨by rfl, ?_⟩; intro W hSw; go_simp; try with_reducible rfl
  try simp only [Act.put, List.setIfInBounds_toArray, List.set_cons_zero, List.set_cons_succ]
  refine' wpAnyH_take (i := 62) (oi := _) (v := _) ?hir62 (by kernel_rfl) ?hfr62 ?hrr62 ?hQr62 ?hyr62 hBr4 ?restr62
  case hir62 => (simp only [List.getElem?_toArray]; rfl)
  case hfr62 => kernel_rfl
  case hrr62 => kernel_rfl
  case hQr62 => exact fun _ _ _ h => h
  case hyr62 => refine Or.inl ⟨by rfl, ?_⟩; intro W hSw; go_simp; try with_reducible rfl
  try simp only [Act.put, List.setIfInBounds_toArray, List.set_cons_zero, List.set_cons_succ]
  refine' wpAnyH_take (i := 63) (oi := _) (v := _) ?hir63 (by kernel_rfl) ?hfr63 ?hrr63 ?hQr63 ?hyr63 hBr4 ?restr63
  case hir63 => (simp only [List.getElem?_toArray]; rfl)
  case hfr63 => kernel_rfl
  case hrr63 => kernel_rfl
  case hQr63 => exact fun _ _ _ h => h
  case hyr63 => refine Or.inl ⟨by rfl, ?_⟩; intro W hSw; go_simp; try with_reducible rfl
  try simp only [Act.put, List.setIfInBounds_toArray, List.set_cons_zero, List.set_cons_succ]
  refine' wpAnyH_take (i := 64) (oi := _) (v := sv (b1)) ?hir64 (by kernel_rfl) ?hfr64 ?hrr64 ?hQr64 ?hyr64 hBr4 ?restr64
  case hir64 => (simp only [List.getElem?_toArray]; rfl)
  case hfr64 => kernel_rfl
  case hrr64 => kernel_rfl
  case hQr64 => exact fun _ _ _ h => h
  case hyr64 => refine yields_sum ?_ (.tmp 20) rfl ⟨g16, 0, none⟩ rfl b1 hbl (fun W hSw => (K20.out W hSw)); rfl
  try simp only [Act.put, List.setIfInBounds_toArray, List.set_cons_zero, List.set_cons_succ]
  refine wpAnyH_ready (rs := [65]) (by kernel_rfl) (by simp) ?_
  refine' AllReadyH.cons (o := _) ?hir65 (fun K hK => ?_) AllReadyH.nil
  case hir65 => (simp only [List.getElem?_toArray]; rfl)
  rw [if_pos (by rfl)]
  refine wp_sums _ [b1] 1 rfl rfl (by simp <;> rfl) (by intro s hs; simp at hs; rw [hs]; exact hbl) (by omega) (by omega) ?_
  rw [show [b1].flatten = b1 by simp]
  have hBr5 := Below.alloc hBr4 (Below.size hBr4) (.cells (bvs b1).toArray 34)
  have iL65 : InS (WS56.alloc (.cells (bvs b1).toArray 34)) (some ⟨WS56.heap.size, 0, none⟩) 1 b1 := ⟨hbl, (In.new' WS56 b1 34).rd⟩
  refine hK.out _ _ hBr5 (fun _ => ?_)
  clear hK K
  try simp only [Act.put, List.setIfInBounds_toArray, List.set_cons_zero, List.set_cons_succ]
  have CQ66 := Lib.hid (sameSums_yes A13 (some ⟨WS56.heap.size, 0, none⟩) 1 d13 1 b1 _ (Q16.out.below hBr5) iL65 (by omega))
  refine wpAnyH_ready (rs := [66]) (by kernel_rfl) (by simp) ?_
  refine' AllReadyH.cons (o := _) ?hir66 (fun K hK => ?_) AllReadyH.nil
  case hir66 => (simp only [List.getElem?_toArray]; rfl)
  go_simp
  go_at_call 18
  refine CQ66.out.mono ?_
  rintro e WS66 ⟨rfl, qS, hqS⟩
  have hBr6 : Below w16.heap.size w16 WS66 := by rw [hqS]; exact ⟨hBr5.os, hBr5.tape, hBr5.output, hBr5.size, hBr5.block⟩
  clear hqS
  refine hK.out _ _ hBr6 (fun _ => ?_)
  clear hK K iL65 CQ66
  try simp only [Act.put, List.setIfInBounds_toArray, List.set_cons_zero, List.set_cons_succ]
  refine' wpAnyH_take (i := 67) (oi := _) (v := _) ?hir67 (by kernel_rfl) ?hfr67 ?hrr67 ?hQr67 ?hyr67 hBr6 ?restr67
  case hir67 => (simp only [List.getElem?_toArray]; rfl)
  case hfr67 => kernel_rfl
  case hrr67 => kernel_rfl
  case hQr67 => exact fun _ _ _ h => h
  case hyr67 => refine Or.inl ⟨by rfl, ?_⟩; intro W hSw; go_simp; try with_reducible rfl
  try simp only [Act.put, List.setIfInBounds_toArray, List.set_cons_zero, List.set_cons_succ]
  refine' wpAnyH_take (i := 68) (oi := _) (v := _) ?hir68 (by kernel_rfl) ?hfr68 ?hrr68 ?hQr68 ?hyr68 hBr6 ?restr68
  case hir68 => (simp only [List.getElem?_toArray]; rfl)
  case hfr68 => kernel_rfl
  case hrr68 => kernel_rfl
  case hQr68 => exact fun _ _ _ h => h
  case hyr68 => refine Or.inl ⟨by rfl, ?_⟩; intro W hSw; go_simp; try with_reducible rfl
  try simp only [Act.put, List.setIfInBounds_toArray, List.set_cons_zero, List.set_cons_succ]
  refine' wpAnyH_take (i := 69) (oi := _) (v := _) ?hir69 (by kernel_rfl) ?hfr69 ?hrr69 ?hQr69 ?hyr69 hBr6 ?restr69
  case hir69 => (simp only [List.getElem?_toArray]; rfl)
  case hfr69 => kernel_rfl
  case hrr69 => kernel_rfl
  case hQr69 => exact fun _ _ _ h => h
  case hyr69 => refine Or.inl ⟨by rfl, ?_⟩; intro W hSw; go_simp; try with_reducible rfl
  try simp only [Act.put, List.setIfInBounds_toArray, List.set_cons_zero, List.set_cons_succ]
  refine' wpAnyH_take (i := 70) (oi := _) (v := _) ?hir70 (by kernel_rfl) ?hfr70 ?hrr70 ?hQr70 ?hyr70 hBr6 ?restr70
  case hir70 => (simp only [List.getElem?_toArray]; rfl)
  case hfr70 => kernel_rfl
  case hrr70 => kernel_rfl
  case hQr70 => exact fun _ _ _ h => h
  case hyr70 => refine Or.inl ⟨by rfl, ?_⟩; intro W hSw; go_simp; try with_reducible rfl
  try simp only [Act.put, List.setIfInBounds_toArray, List.set_cons_zero, List.set_cons_succ]
  refine' wpAnyH_take (i := 71) (oi := _) (v := _) ?hir71 (by kernel_rfl) ?hfr71 ?hrr71 ?hQr71 ?hyr71 hBr6 ?restr71
  case hir71 => (simp only [List.getElem?_toArray]; rfl)
  case hfr71 => kernel_rfl
  case hrr71 => kernel_rfl
  case hQr71 => exact fun _ _ _ h => h
  case hyr71 => refine Or.inl ⟨by rfl, ?_⟩; intro W hSw; go_simp; try with_reducible rfl
  try simp only [Act.put, List.setIfInBounds_toArray, List.set_cons_zero, List.set_cons_succ]
  refine' wpAnyH_take (i := 72) (oi := _) (v := _) ?hir72 (by kernel_rfl) ?hfr72 ?hrr72 ?hQr72 ?hyr72 hBr6 ?restr72
  case hir72 => (simp only [List.getElem?_toArray]; rfl)
  case hfr72 => kernel_rfl
  case hrr72 => kernel_rfl
  case hQr72 => exact fun _ _ _ h => h
  case hyr72 => refine Or.inl ⟨by rfl, ?_⟩; intro W hSw; go_simp; try with_reducible rfl
  try simp only [Act.put, List.setIfInBounds_toArray, List.set_cons_zero]
  refine wpAnyH_done (by kernel_rfl) ?_ _
  go_wp2_with fail
  go_ret
  exact ⟨rfl, BL.out _ hBr6⟩

end Go.Proofs.YtllohbgejjbagaaDoor

/-
  What the laws of layer 12 share.
-/
namespace Go.Proofs.YtllohbgejjbagaaDoor
open Go.RowKit Go.Deep

theorem alive_on {w W : World} (hk : Knows w) (hs : Starts w) (hW : Below w.heap.size w W) : Calls Tryd.prog 16 #[] W fun e w' => e = .returned (.bool true) ∧ Below w.heap.size w w' :=
  (halive_any W (hk.below hW) (hs.below hW)).mono fun _ _ ⟨he, hb⟩ => ⟨he, below_on hW (Nat.le_refl _) hb⟩
theorem markV_in {l : List (List Nat)} {n : Nat} (h : n ≤ l.length) : markV l n = markL (l.take n) := by unfold markV; rw [if_pos h]
theorem hasE_in {l : List (List Nat)} {n : Nat} (h : n ≤ l.length) : hasE l n = 0 := by unfold hasE; rw [if_pos h]
theorem pathE_in {l : List (List Nat)} {a n : Nat} (h : n ≤ l.length) (ha : a < n) : pathE l a n = 0 := by unfold pathE; rw [if_pos (show pathOk l a n from ⟨h, ha⟩)]
theorem linkE_in {l : List (List Nat)} {a n : Nat} (h : n ≤ l.length) (h1 : 1 ≤ a) (ha : a ≤ n) : linkE l a n = 0 := by unfold linkE; rw [if_pos (show linkOk l a n from ⟨h, h1, ha⟩)]
theorem pathN_in {l : List (List Nat)} {a n : Nat} (h : n ≤ l.length) (ha : a < n) : pathN l a n = dep a n := by unfold pathN; rw [if_pos (show pathOk l a n from ⟨h, ha⟩)]
theorem linkN_in {l : List (List Nat)} {a n : Nat} (h : n ≤ l.length) (h1 : 1 ≤ a) (ha : a ≤ n) : linkN l a n = ldep a n true := by unfold linkN; rw [if_pos (show linkOk l a n from ⟨h, h1, ha⟩)]
theorem pathS_in {l : List (List Nat)} {a n : Nat} (h : n ≤ l.length) (ha : a < n) : pathS l a n = (pathL (lf l) 0 n a).flatten := by unfold pathS; rw [if_pos (show pathOk l a n from ⟨h, ha⟩)]
theorem linkS_in {l : List (List Nat)} {a n : Nat} (h : n ≤ l.length) (h1 : 1 ≤ a) (ha : a ≤ n) : linkS l a n = (linkL (lf l) 0 n a true).flatten := by unfold linkS; rw [if_pos (show linkOk l a n from ⟨h, h1, ha⟩)]
theorem rootV_in {l : List (List Nat)} {n : Nat} (h : n ≤ l.length) : rootV l n = rt (lf l) 0 n := by unfold rootV; rw [if_pos h]

/-- What is told of the first ones hangs on these alone. -/
theorem mark_begin {l r : List (List Nat)} {n : Nat} (h : n ≤ l.length) : markV (l ++ r) n = markV l n := by
  rw [markV_in h, markV_in (by rw [List.length_append]; omega), List.take_append_of_le_length h]
theorem rootV_begin {l r : List (List Nat)} {n : Nat} (h : n ≤ l.length) : rootV (l ++ r) n = rootV l n := by
  rw [rootV_in h, rootV_in (by rw [List.length_append]; omega), root_begin l r h]
theorem pathS_begin {l r : List (List Nat)} {a n : Nat} (h : n ≤ l.length) (ha : a < n) : pathS (l ++ r) a n = pathS l a n := by
  rw [pathS_in h ha, pathS_in (by rw [List.length_append]; omega) ha, path_begin l r h]
theorem linkS_begin {l r : List (List Nat)} {a n : Nat} (h : n ≤ l.length) (h1 : 1 ≤ a) (ha : a ≤ n) : linkS (l ++ r) a n = linkS l a n := by
  rw [linkS_in h h1 ha, linkS_in (by rw [List.length_append]; omega) h1 ha, link_begin l r h]

theorem rows_cap {H : Type} {enc : TypeId × Value → H} {w : World} {base : Nat} {held : Bool} {fuel n c : Nat} {A : Option Addr} {x : DataW H × List MemPlace} (h : DataW.trod enc Tryd.prog w base (fun _ => true) held fuel 43 [.slice A n c] = some x) : n ≤ c := by
  rcases open_int_rows Tryd.underlying43 Tryd.underlying22 Tryd.underlying5 (by kernel_rfl) (by kernel_rfl) h with ⟨e, _⟩ | ⟨a, len, cap, B, L, C, Z, e, _, hl, _⟩
  · simp at e; omega
  · simp at e; omega
theorem CameRows.take {w : World} {A : Option Addr} {n k : Nat} {rows : List (List Nat)} (h : CameRows w A n rows) (hk : k ≤ n) : CameRows w A k (rows.take k) :=
  ⟨by rw [List.length_take, h.len]; omega, fun r xs hx => by
    rw [List.getElem?_take] at hx
    split at hx
    · exact h.row r xs hx
    · cases hx⟩
theorem run_take_rows {A : Option Addr} {n c k : Nat} (hk : k ≤ n) (hc : n ≤ c) (hn : A = none → c = 0) (W : World) :
    (Instr.slice 43 (.slice A n c) none (some (.int .i64 (k : Int))) none).run Tryd.prog W = .ok (.slice A k c) W := by
  obtain ⟨i0, hi, hz0, hz1, hz2⟩ := info_parts infoSlc
  have he : Tryd.prog.elem 43 = 22 := by kernel_rfl
  rw [run_slice_h W 43 A n c (by rw [he]; exact Tryd.underlying43) .i64 (k : Int) (by omega) (by omega), he]
  cases A with
  | none =>
    obtain rfl := hn rfl
    obtain rfl : k = 0 := by omega
    simp [sizeOf, typeInfo, hi, hz1, sliced]
  | some ad => simp [sizeOf, typeInfo, hi, hz1, sliced, add_zero']

end Go.Proofs.YtllohbgejjbagaaDoor

/-
  almonerlaw12.ChainsGrow.
-/
namespace Go.Proofs.YtllohbgejjbagaaDoor
open Go.RowKit

set_option maxRecDepth 100000 in
set_option maxHeartbeats 8000000 in
theorem chainsGrow_law (w : World) (hk : Knows w) (hs : Starts w) {A : Option Addr} {n c : Nat} {rows : List (List Nat)} (cr : CameRows w A n rows) (hnil : A = none → c = 0) (hcap : n ≤ c) {many : Nat} (_hm : many < 256) {zs : List Nat} (hz : zs.length = 2) (hzb : ∀ x ∈ zs, x < 256) :
    Calls Tryd.prog 4 #[.slice A n c, .int .u8 (many : Int), .agg (bvs zs).toArray] w fun e w' => e = .returned (.bool true) ∧ Below w.heap.size w w' := by
  obtain ⟨w0, hw0⟩ : ∃ w0, w0 = w.alloc (.cells (bvs zs).toArray 44) := ⟨_, rfl⟩
  have b0 : Below w.heap.size w w0 := by rw [hw0]; exact below_alloc _ _
  have r0 : BArr w0 w.heap.size 44 zs := by rw [hw0]; exact BArr.new _ _ _
  have CG := Lib.hid (hgreat_any A n c rows w0 (cr.below b0))
  have CA := Lib.hid (fun (W : World) (hW : Below w.heap.size w W) => alive_on hk hs hW)
  have HK := Lib.hid (And.intro hk (And.intro hs (And.intro cr (And.intro b0 (And.intro r0 (And.intro hnil hcap))))))
  have HW := Lib.hid hw0
  clear hk hs cr hw0 b0 r0 hnil hcap
  go_enter Tryd.func4, Tryd.ntmps4
  go_upto_region 1 with fail
  rw [← HW.out]
  clear HW
  go_wp2_with fail
  refine CG.out.mono ?_
  rintro e w' ⟨B, rfl, hB, e1⟩
  obtain rfl := e1.symm
  clear e1
  by_cases hg : B = true ∨ n = 0
  · cases B with
    | true =>
      go_wp2_with fail
      refine (CA.out _ HK.out.2.2.2.1).mono ?_
      rintro e w2 ⟨rfl, hb⟩
      go_wp2_with fail
      go_ret
      exact ⟨rfl, hb⟩
    | false =>
      obtain rfl : n = 0 := by rcases hg with h | h; cases h; exact h
      go_wp2_with fail
      refine (CA.out _ HK.out.2.2.2.1).mono ?_
      rintro e w2 ⟨rfl, hb⟩
      go_wp2_with fail
      go_ret
      exact ⟨rfl, hb⟩
  · obtain ⟨rfl, hn0⟩ : B = false ∧ n ≠ 0 := by
      cases B with
      | true => exact absurd (.inl rfl) hg
      | false => exact ⟨rfl, fun h => hg (.inr h)⟩
    have n60 := hB rfl
    have hlen : rows.length = n := HK.out.2.2.1.len
    have HL := Lib.hid hlen
    obtain ⟨a, ha⟩ : ∃ a, many % n = a := ⟨_, rfl⟩
    have haN : a < n := by rw [← ha]; exact Nat.mod_lt _ (by omega)
    obtain ⟨q, hq⟩ : ∃ q, 1 + a = q := ⟨_, rfl⟩
    have m2 : (many : Int) % (n : Int) = (a : Int) := by rw [← ha]; simp
    have m1 : Int.tmod (many : Int) (n : Int) = (a : Int) := by rw [Int.tmod_eq_emod_of_nonneg (by omega)]; exact m2
    have m3 : (1 : Int) + (a : Int) = (q : Int) := by omega
    have hn0' : ((n : Int) == 0) = false := by simp; omega
    have hqn : q ≤ n := by omega
    have hq1 : 1 ≤ q := by omega
    obtain ⟨p, hp⟩ : ∃ p, zs[0]? = some p := ⟨_, List.getElem?_eq_getElem (by omega)⟩
    obtain ⟨r, hr⟩ : ∃ r, zs[1]? = some r := ⟨_, List.getElem?_eq_getElem (by omega)⟩
    have hpb : p < 256 := hzb p (List.mem_of_getElem? hp)
    have hrb : r < 256 := hzb r (List.mem_of_getElem? hr)
    obtain ⟨x, hx⟩ : ∃ x, p % q = x := ⟨_, rfl⟩
    obtain ⟨y, hy⟩ : ∃ y, r % q = y := ⟨_, rfl⟩
    have hxq : x < q := by rw [← hx]; exact Nat.mod_lt _ (by omega)
    have hyq : y < q := by rw [← hy]; exact Nat.mod_lt _ (by omega)
    obtain ⟨t, ht⟩ : ∃ t, 1 + y = t := ⟨_, rfl⟩
    have htq : t ≤ q := by omega
    have ht1 : 1 ≤ t := by omega
    have x2 : (p : Int) % (q : Int) = (x : Int) := by rw [← hx]; simp
    have x1 : Int.tmod (p : Int) (q : Int) = (x : Int) := by rw [Int.tmod_eq_emod_of_nonneg (by omega)]; exact x2
    have y2 : (r : Int) % (q : Int) = (y : Int) := by rw [← hy]; simp
    have y1 : Int.tmod (r : Int) (q : Int) = (y : Int) := by rw [Int.tmod_eq_emod_of_nonneg (by omega)]; exact y2
    have y3 : (1 : Int) + (y : Int) = (t : Int) := by omega
    have hq0' : ((q : Int) == 0) = false := by simp; omega
    have HZ := Lib.hid (And.intro hp hr)
    have HQ := Lib.hid (And.intro hqn (And.intro hxq (And.intro htq ht1)))
    have CM := Lib.hid (hmade_any A n c rows w0 (HK.out.2.2.1.below HK.out.2.2.2.1) (by omega) (HK.out.1.below HK.out.2.2.2.1) (HK.out.2.1.below HK.out.2.2.2.1))
    have hcut := fun W => run_take_rows (A := A) (n := n) (c := c) (k := q) hqn HK.out.2.2.2.2.2.2 HK.out.2.2.2.2.2.1 W
    have HX := Lib.hid (And.intro x1 (And.intro x2 (And.intro y1 (And.intro y2 (And.intro y3 hq0')))))
    clear CG hB hg ha hq hp hr hx hy ht hlen x1 x2 y1 y2 y3 hq0'
    go_wp2_with fail
    refine CM.out.mono ?_
    rintro e w1 ⟨P, rfl, hb1, hP⟩
    have HB1 := Lib.hid (below_on HK.out.2.2.2.1 (Nat.le_refl _) hb1)
    have CD := Lib.hid (hmade_any A q c (rows.take q) w1 ((HK.out.2.2.1.below HB1.out).take hqn) (by omega) (HK.out.1.below HB1.out) (HK.out.2.1.below HB1.out))
    have HP := Lib.hid hP
    have HZB := Lib.hid (HK.out.2.2.2.2.1.below hb1)
    clear CM hP hb1
    go_wp2_with fail
    refine CD.out.mono ?_
    rintro e w2 ⟨P2, rfl, hb2, hP2⟩
    have HB2 := Lib.hid (below_on HB1.out (Nat.le_refl _) hb2)
    by_cases hnone : P = none ∨ P2 = none
    · have hor : (P == none || P2 == none) = true := by rcases hnone with rfl | rfl <;> simp
      clear HP hP2
      have C1 := Lib.hid (CA.out _ HB2.out)
      rcases hnone with rfl | rfl
      · go_wp2_with fail
        refine C1.out.mono ?_
        rintro e w3 ⟨rfl, hb⟩
        go_wp2_with fail
        go_ret
        exact ⟨rfl, hb⟩
      · cases P with
        | none =>
          go_wp2_with fail
          refine C1.out.mono ?_
          rintro e w3 ⟨rfl, hb⟩
          go_wp2_with fail
          go_ret
          exact ⟨rfl, hb⟩
        | some pp =>
          go_wp2_with fail
          refine C1.out.mono ?_
          rintro e w3 ⟨rfl, hb⟩
          go_wp2_with fail
          go_ret
          exact ⟨rfl, hb⟩
    · obtain ⟨g, G, rfl, hm⟩ : ∃ g G, P = some ⟨g, 0, none⟩ ∧ MadeAt w0 w1 g G rows := by
        rcases HP.out with h | h
        · exact absurd (.inl h) hnone
        · exact h
      obtain ⟨d, D, rfl, hd⟩ : ∃ g G, P2 = some ⟨g, 0, none⟩ ∧ MadeAt w1 w2 g G (rows.take q) := by
        rcases hP2 with h | h
        · exact absurd (.inr h) hnone
        · exact h
      have HM : Hid (MadeAt w w2 g G rows) := Lib.hid ⟨hm.chain.below hb2, fun x hx => Nat.le_trans HK.out.2.2.2.1.size (hm.new x hx), HB2.out⟩
      have HD := Lib.hid hd
      have HZ2 := Lib.hid (HZB.out.below hb2)
      clear hm hd HP hP2 hnone hb2 HZB CD
      obtain ⟨m1', hm1⟩ : ∃ m1', markV rows q = m1' := ⟨_, rfl⟩
      have lm : m1'.length = 32 := by rw [← hm1]; exact markV_length _ _
      obtain ⟨r1', hr1⟩ : ∃ r1', rootV rows q = r1' := ⟨_, rfl⟩
      have lr : r1'.length = 32 := by rw [← hr1]; exact rootV_length _ _
      have htl : (rows.take q).length = q := by rw [List.length_take, HL.out]; omega
      have hsplit : rows.take q ++ rows.drop q = rows := List.take_append_drop q rows
      have em : markV (rows.take q) q = m1' := by rw [← hm1, ← mark_begin (r := rows.drop q) (by rw [htl]; exact Nat.le_refl _), hsplit]
      have er : rootV (rows.take q) q = r1' := by rw [← hr1, ← rootV_begin (r := rows.drop q) (by rw [htl]; exact Nat.le_refl _), hsplit]
      obtain ⟨ps, hps⟩ : ∃ ps, pathS rows x q = ps := ⟨_, rfl⟩
      obtain ⟨ls, hls⟩ : ∃ ls, linkS rows t q = ls := ⟨_, rfl⟩
      have ep : pathS (rows.take q) x q = ps := by rw [← hps, ← pathS_begin (r := rows.drop q) (by rw [htl]; exact Nat.le_refl _) hxq, hsplit]
      have el : linkS (rows.take q) t q = ls := by rw [← hls, ← linkS_begin (r := rows.drop q) (by rw [htl]; exact Nat.le_refl _) ht1 htq, hsplit]
      obtain ⟨u, hu⟩ : ∃ u, dep x q = u := ⟨_, rfl⟩
      have hu64 : u ≤ 64 := by rw [← hu]; exact dep_64 hxq (by omega)
      obtain ⟨v, hv⟩ : ∃ v, ldep t q true = v := ⟨_, rfl⟩
      have hv65 : v ≤ 65 := by rw [← hv]; exact ldep_64 (by omega) _ _
      have HE := Lib.hid (And.intro hm1 (And.intro hr1 (And.intro em (And.intro er (And.intro hps (And.intro hls (And.intro ep (And.intro el (And.intro hu (And.intro hv htl))))))))))
      have q1 := run_eql_sum m1' m1' lm lm
      rw [decide_eq_true rfl] at q1
      have q2 := run_eql_sum r1' r1' lr lr
      rw [decide_eq_true rfl] at q2
      have q3 := run_guard_eql
      have hcz := HZ2.out.at_ 0 p HZ.out.1
      have hcr := HZ2.out.at_ 1 r HZ.out.2
      rw [show (⟨w.heap.size, 0, none⟩ : Addr).add 0 = ⟨w.heap.size, 0, none⟩ from rfl, bv] at hcz
      rw [show (⟨w.heap.size, 0, none⟩ : Addr).add 1 = ⟨w.heap.size, 1, none⟩ from rfl, bv] at hcr
      obtain ⟨x1, x2, y1, y2, y3, hq0'⟩ := HX.out
      clear hm1 hr1 em er hps hls ep el hu hv htl hsplit
      have HF2 := Lib.hid (And.intro (HM.out) (And.intro (HD.out) trivial))
      clear HM HD HZ2
      have CT := c_mark HF2.out.1.chain (by have := HL.out; omega) q
      rw [HE.out.1, hasE_in (by rw [HL.out]; exact HQ.out.1)] at CT
      have C1 := Lib.hid CT
      clear CT
      go_wp2_with fail
      refine C1.out.mono ?_
      rintro e w3 ⟨rfl, hb⟩
      clear C1
      have HF3 := Lib.hid (And.intro (HF2.out.1.below hb) (And.intro (HF2.out.2.1.below hb) trivial))
      clear HF2
      clear hb
      obtain ⟨w4, hw⟩ : ∃ w4, w4 = w3.alloc (.cells (bvs m1').toArray 34) := ⟨_, rfl⟩
      have hb : Below w3.heap.size w3 w4 := by rw [hw]; exact below_alloc _ _
      have hn : BArr w4 w3.heap.size 34 m1' := by rw [hw]; exact BArr.new _ _ _
      have HW := Lib.hid hw
      clear hw
      go_wp2_with (with_reducible refine wpList_store_new w3 _ (by simp) rfl (.tmp 13) (.tmp 75) rfl rfl m1' lm rfl ?_; rw [← HW.out])
      clear HW
      obtain ⟨g4, hg⟩ : ∃ g, w3.heap.size = g := ⟨_, rfl⟩
      rw [hg] at hn
      have HF4 := Lib.hid (And.intro (HF3.out.1.below hb) (And.intro (HF3.out.2.1.below hb) (And.intro (hn) trivial)))
      clear HF3
      rw [hg]
      clear hn hb hg
      have CT := c_mark HF4.out.2.1.chain (by have := HE.out.2.2.2.2.2.2.2.2.2.2; omega) q
      rw [HE.out.2.2.1, hasE_in (by rw [HE.out.2.2.2.2.2.2.2.2.2.2]; exact Nat.le_refl _)] at CT
      have C1 := Lib.hid CT
      clear CT
      go_wp2_with fail
      refine C1.out.mono ?_
      rintro e w5 ⟨rfl, hb⟩
      clear C1
      have HF5 := Lib.hid (And.intro (HF4.out.1.below hb) (And.intro (HF4.out.2.1.below hb) (And.intro (HF4.out.2.2.1.below hb) trivial)))
      clear HF4
      clear hb
      obtain ⟨w6, hw⟩ : ∃ w6, w6 = w5.alloc (.cells (bvs m1').toArray 34) := ⟨_, rfl⟩
      have hb : Below w5.heap.size w5 w6 := by rw [hw]; exact below_alloc _ _
      have hn : BArr w6 w5.heap.size 34 m1' := by rw [hw]; exact BArr.new _ _ _
      have HW := Lib.hid hw
      clear hw
      go_wp2_with (with_reducible refine wpList_store_new w5 _ (by simp) rfl (.tmp 15) (.tmp 81) rfl rfl m1' lm rfl ?_; rw [← HW.out])
      clear HW
      obtain ⟨g6, hg⟩ : ∃ g, w5.heap.size = g := ⟨_, rfl⟩
      rw [hg] at hn
      have HF6 := Lib.hid (And.intro (HF5.out.1.below hb) (And.intro (HF5.out.2.1.below hb) (And.intro (HF5.out.2.2.1.below hb) (And.intro (hn) trivial))))
      clear HF5
      rw [hg]
      clear hn hb hg
      have CT := c_root HF6.out.1.chain (by have := HL.out; omega) q (HK.out.1.below HF6.out.1.bel) (HK.out.2.1.below HF6.out.1.bel)
      rw [HE.out.2.1, hasE_in (by rw [HL.out]; exact HQ.out.1)] at CT
      have C1 := Lib.hid CT
      clear CT
      go_wp2_with fail
      refine C1.out.mono ?_
      rintro e w7 ⟨rfl, hb⟩
      clear C1
      have HF7 := Lib.hid (And.intro (HF6.out.1.below hb) (And.intro (HF6.out.2.1.below hb) (And.intro (HF6.out.2.2.1.below hb) (And.intro (HF6.out.2.2.2.1.below hb) trivial))))
      clear HF6
      clear hb
      obtain ⟨w8, hw⟩ : ∃ w8, w8 = w7.alloc (.cells (bvs r1').toArray 34) := ⟨_, rfl⟩
      have hb : Below w7.heap.size w7 w8 := by rw [hw]; exact below_alloc _ _
      have hn : BArr w8 w7.heap.size 34 r1' := by rw [hw]; exact BArr.new _ _ _
      have HW := Lib.hid hw
      clear hw
      go_wp2_with (with_reducible refine wpList_store_new w7 _ (by simp) rfl (.tmp 17) (.tmp 87) rfl rfl r1' lr rfl ?_; rw [← HW.out])
      clear HW
      obtain ⟨g8, hg⟩ : ∃ g, w7.heap.size = g := ⟨_, rfl⟩
      rw [hg] at hn
      have HF8 := Lib.hid (And.intro (HF7.out.1.below hb) (And.intro (HF7.out.2.1.below hb) (And.intro (HF7.out.2.2.1.below hb) (And.intro (HF7.out.2.2.2.1.below hb) (And.intro (hn) trivial)))))
      clear HF7
      rw [hg]
      clear hn hb hg
      have CT := c_root HF8.out.2.1.chain (by have := HE.out.2.2.2.2.2.2.2.2.2.2; omega) q (HK.out.1.below HF8.out.1.bel) (HK.out.2.1.below HF8.out.1.bel)
      rw [HE.out.2.2.2.1, hasE_in (by rw [HE.out.2.2.2.2.2.2.2.2.2.2]; exact Nat.le_refl _)] at CT
      have C1 := Lib.hid CT
      clear CT
      go_wp2_with fail
      refine C1.out.mono ?_
      rintro e w9 ⟨rfl, hb⟩
      clear C1
      have HF9 := Lib.hid (And.intro (HF8.out.1.below hb) (And.intro (HF8.out.2.1.below hb) (And.intro (HF8.out.2.2.1.below hb) (And.intro (HF8.out.2.2.2.1.below hb) (And.intro (HF8.out.2.2.2.2.1.below hb) trivial)))))
      clear HF8
      clear hb
      obtain ⟨w10, hw⟩ : ∃ w10, w10 = w9.alloc (.cells (bvs r1').toArray 34) := ⟨_, rfl⟩
      have hb : Below w9.heap.size w9 w10 := by rw [hw]; exact below_alloc _ _
      have hn : BArr w10 w9.heap.size 34 r1' := by rw [hw]; exact BArr.new _ _ _
      have HW := Lib.hid hw
      clear hw
      go_wp2_with (with_reducible refine wpList_store_new w9 _ (by simp) rfl (.tmp 19) (.tmp 93) rfl rfl r1' lr rfl ?_; rw [← HW.out])
      clear HW
      obtain ⟨g10, hg⟩ : ∃ g, w9.heap.size = g := ⟨_, rfl⟩
      rw [hg] at hn
      have HF10 := Lib.hid (And.intro (HF9.out.1.below hb) (And.intro (HF9.out.2.1.below hb) (And.intro (HF9.out.2.2.1.below hb) (And.intro (HF9.out.2.2.2.1.below hb) (And.intro (HF9.out.2.2.2.2.1.below hb) (And.intro (hn) trivial))))))
      clear HF9
      rw [hg]
      clear hn hb hg
      have CT := c_path HF10.out.1.chain (by have := HL.out; omega) x q (HK.out.1.below HF10.out.1.bel) (HK.out.2.1.below HF10.out.1.bel)
      rw [pathN_in (by rw [HL.out]; exact HQ.out.1) HQ.out.2.1, pathE_in (by rw [HL.out]; exact HQ.out.1) HQ.out.2.1, HE.out.2.2.2.2.1, HE.out.2.2.2.2.2.2.2.2.1] at CT
      have C1 := Lib.hid CT
      clear CT
      go_wp2_with fail
      refine C1.out.mono ?_
      rintro e w11 ⟨A11, d11, rfl, ho11, hb⟩
      clear C1
      have HF11 := Lib.hid (And.intro (HF10.out.1.below hb) (And.intro (HF10.out.2.1.below hb) (And.intro (HF10.out.2.2.1.below hb) (And.intro (HF10.out.2.2.2.1.below hb) (And.intro (HF10.out.2.2.2.2.1.below hb) (And.intro (HF10.out.2.2.2.2.2.1.below hb) (And.intro (InS.of_own (A := A11) (n := u) (c := d11) (ys := ps) ho11) trivial)))))))
      clear HF10
      clear hb ho11
      have CT := c_path HF11.out.2.1.chain (by have := HE.out.2.2.2.2.2.2.2.2.2.2; omega) x q (HK.out.1.below HF11.out.1.bel) (HK.out.2.1.below HF11.out.1.bel)
      rw [pathN_in (by rw [HE.out.2.2.2.2.2.2.2.2.2.2]; exact Nat.le_refl _) HQ.out.2.1, pathE_in (by rw [HE.out.2.2.2.2.2.2.2.2.2.2]; exact Nat.le_refl _) HQ.out.2.1, HE.out.2.2.2.2.2.2.1, HE.out.2.2.2.2.2.2.2.2.1] at CT
      have C1 := Lib.hid CT
      clear CT
      go_wp2_with fail
      refine C1.out.mono ?_
      rintro e w12 ⟨A12, d12, rfl, ho12, hb⟩
      clear C1
      have HF12 := Lib.hid (And.intro (HF11.out.1.below hb) (And.intro (HF11.out.2.1.below hb) (And.intro (HF11.out.2.2.1.below hb) (And.intro (HF11.out.2.2.2.1.below hb) (And.intro (HF11.out.2.2.2.2.1.below hb) (And.intro (HF11.out.2.2.2.2.2.1.below hb) (And.intro (HF11.out.2.2.2.2.2.2.1.below hb) (And.intro (InS.of_own (A := A12) (n := u) (c := d12) (ys := ps) ho12) trivial))))))))
      clear HF11
      clear hb ho12
      have CT := c_link HF12.out.1.chain (by have := HL.out; omega) t q (HK.out.1.below HF12.out.1.bel) (HK.out.2.1.below HF12.out.1.bel)
      rw [linkN_in (by rw [HL.out]; exact HQ.out.1) HQ.out.2.2.2 HQ.out.2.2.1, linkE_in (by rw [HL.out]; exact HQ.out.1) HQ.out.2.2.2 HQ.out.2.2.1, HE.out.2.2.2.2.2.1, HE.out.2.2.2.2.2.2.2.2.2.1] at CT
      have C1 := Lib.hid CT
      clear CT
      go_wp2_with fail
      refine C1.out.mono ?_
      rintro e w13 ⟨A13, d13, rfl, ho13, hb⟩
      clear C1
      have HF13 := Lib.hid (And.intro (HF12.out.1.below hb) (And.intro (HF12.out.2.1.below hb) (And.intro (HF12.out.2.2.1.below hb) (And.intro (HF12.out.2.2.2.1.below hb) (And.intro (HF12.out.2.2.2.2.1.below hb) (And.intro (HF12.out.2.2.2.2.2.1.below hb) (And.intro (HF12.out.2.2.2.2.2.2.1.below hb) (And.intro (HF12.out.2.2.2.2.2.2.2.1.below hb) (And.intro (InS.of_own (A := A13) (n := v) (c := d13) (ys := ls) ho13) trivial)))))))))
      clear HF12
      clear hb ho13
      have CT := c_link HF13.out.2.1.chain (by have := HE.out.2.2.2.2.2.2.2.2.2.2; omega) t q (HK.out.1.below HF13.out.1.bel) (HK.out.2.1.below HF13.out.1.bel)
      rw [linkN_in (by rw [HE.out.2.2.2.2.2.2.2.2.2.2]; exact Nat.le_refl _) HQ.out.2.2.2 HQ.out.2.2.1, linkE_in (by rw [HE.out.2.2.2.2.2.2.2.2.2.2]; exact Nat.le_refl _) HQ.out.2.2.2 HQ.out.2.2.1, HE.out.2.2.2.2.2.2.2.1, HE.out.2.2.2.2.2.2.2.2.2.1] at CT
      have C1 := Lib.hid CT
      clear CT
      go_wp2_with fail
      refine C1.out.mono ?_
      rintro e w14 ⟨A14, d14, rfl, ho14, hb⟩
      clear C1
      have HF14 := Lib.hid (And.intro (HF13.out.1.below hb) (And.intro (HF13.out.2.1.below hb) (And.intro (HF13.out.2.2.1.below hb) (And.intro (HF13.out.2.2.2.1.below hb) (And.intro (HF13.out.2.2.2.2.1.below hb) (And.intro (HF13.out.2.2.2.2.2.1.below hb) (And.intro (HF13.out.2.2.2.2.2.2.1.below hb) (And.intro (HF13.out.2.2.2.2.2.2.2.1.below hb) (And.intro (HF13.out.2.2.2.2.2.2.2.2.1.below hb) (And.intro (InS.of_own (A := A14) (n := v) (c := d14) (ys := ls) ho14) trivial))))))))))
      clear HF13
      clear hb ho14
      have C1 := Lib.hid (halive_any w14 (HK.out.1.below HF14.out.1.bel) (HK.out.2.1.below HF14.out.1.bel))
      go_wp2_with fail
      refine C1.out.mono ?_
      rintro e w15 ⟨rfl, hb⟩
      clear C1
      have HF15 := Lib.hid (And.intro (HF14.out.1.below hb) (And.intro (HF14.out.2.1.below hb) (And.intro (HF14.out.2.2.1.below hb) (And.intro (HF14.out.2.2.2.1.below hb) (And.intro (HF14.out.2.2.2.2.1.below hb) (And.intro (HF14.out.2.2.2.2.2.1.below hb) (And.intro (HF14.out.2.2.2.2.2.2.1.below hb) (And.intro (HF14.out.2.2.2.2.2.2.2.1.below hb) (And.intro (HF14.out.2.2.2.2.2.2.2.2.1.below hb) (And.intro (HF14.out.2.2.2.2.2.2.2.2.2.1.below hb) trivial))))))))))
      clear HF14
      clear hb
      have k13 := Lib.hid HF15.out.2.2.1.at_
      have k15 := Lib.hid HF15.out.2.2.2.1.at_
      have k17 := Lib.hid HF15.out.2.2.2.2.1.at_
      have k19 := Lib.hid HF15.out.2.2.2.2.2.1.at_
      have CP := Lib.hid (sameSums_yes A11 A12 u d11 d12 ps _ HF15.out.2.2.2.2.2.2.1 HF15.out.2.2.2.2.2.2.2.1 (by omega))
      go_wp2_with (first
        | (with_reducible refine wpList_load_sum_g rfl (.tmp 13) rfl ⟨g4, 0, none⟩ rfl m1' lm k13.out ?_)
        | (with_reducible refine wpList_load_sum_g rfl (.tmp 15) rfl ⟨g6, 0, none⟩ rfl m1' lm k15.out ?_)
        | (with_reducible refine wpList_load_sum_g rfl (.tmp 17) rfl ⟨g8, 0, none⟩ rfl r1' lr k17.out ?_)
        | (with_reducible refine wpList_load_sum_g rfl (.tmp 19) rfl ⟨g10, 0, none⟩ rfl r1' lr k19.out ?_))
      refine CP.out.mono ?_
      rintro e w16 ⟨rfl, qq, hqq⟩
      have hb : Below w15.heap.size w15 w16 := by rw [hqq]; exact ⟨rfl, rfl, rfl, Nat.le_refl _, fun _ _ => rfl⟩
      clear CP hqq k13 k15 k17 k19
      have HF16 := Lib.hid (And.intro (HF15.out.1.below hb) (And.intro (HF15.out.2.1.below hb) (And.intro (HF15.out.2.2.1.below hb) (And.intro (HF15.out.2.2.2.1.below hb) (And.intro (HF15.out.2.2.2.2.1.below hb) (And.intro (HF15.out.2.2.2.2.2.1.below hb) (And.intro (HF15.out.2.2.2.2.2.2.1.below hb) (And.intro (HF15.out.2.2.2.2.2.2.2.1.below hb) (And.intro (HF15.out.2.2.2.2.2.2.2.2.1.below hb) (And.intro (HF15.out.2.2.2.2.2.2.2.2.2.1.below hb) trivial))))))))))
      clear HF15
      clear hb
      have CL := Lib.hid (sameSums_yes A13 A14 v d13 d14 ls _ HF16.out.2.2.2.2.2.2.2.2.1 HF16.out.2.2.2.2.2.2.2.2.2.1 (by omega))
      go_wp2_with fail
      refine CL.out.mono ?_
      rintro e w17 ⟨rfl, qq, hqq⟩
      have hb : Below w16.heap.size w16 w17 := by rw [hqq]; exact ⟨rfl, rfl, rfl, Nat.le_refl _, fun _ _ => rfl⟩
      clear CL hqq
      have HF17 := Lib.hid (And.intro (HF16.out.1.below hb) (And.intro (HF16.out.2.1.below hb) (And.intro (HF16.out.2.2.1.below hb) (And.intro (HF16.out.2.2.2.1.below hb) (And.intro (HF16.out.2.2.2.2.1.below hb) (And.intro (HF16.out.2.2.2.2.2.1.below hb) (And.intro (HF16.out.2.2.2.2.2.2.1.below hb) (And.intro (HF16.out.2.2.2.2.2.2.2.1.below hb) (And.intro (HF16.out.2.2.2.2.2.2.2.2.1.below hb) (And.intro (HF16.out.2.2.2.2.2.2.2.2.2.1.below hb) trivial))))))))))
      clear HF16
      clear hb
      go_wp2_with fail
      go_ret
      exact ⟨rfl, HF17.out.1.bel⟩

end Go.Proofs.YtllohbgejjbagaaDoor

/-
  An argument that is an array of bytes.
-/
namespace Go.Proofs.YtllohbgejjbagaaDoor
open Go.ChangeShapes Go.WideShapes Go.ChangeAt Go.RowKit

/-- A value as a byte. -/
def byteOf : Value → Nat
  | .int _ z => z.toNat
  | _ => 0

theorem came_arr {H : Type} {enc : TypeId × Value → H} {P : Program} {W : World} {base b0 n : Nat} {spare : Nat → Bool} {held : Bool} {r : Reach} {t e : TypeId} {v : Value} {d : DataW H} {ps : List MemPlace}
    (ht : P.underlying t = some (.array n e)) (he : P.underlying e = some (.int .u8)) (hc : P.cellsOf e = 1) (hct : P.cellsOf t = n)
    (hval : Value.okWide P W r b0 t v) (hd : DataW.Trod enc P W base spare held t v d ps) : ∃ xs : List Nat, v = .agg (bvs xs).toArray ∧ xs.length = n ∧ ∀ x ∈ xs, x < 256 := by
  simp only [Value.okWide, ht] at hval
  obtain ⟨cs, rfl, hsz, _⟩ := hval
  rw [hct] at hsz
  obtain ⟨fuel, hf⟩ := hd
  obtain ⟨xs, m, rfl, _, _, hlen, hp⟩ := DataW.trod_array ht hf
  have hx : ∀ i, i < n → ∃ z : Nat, z < 256 ∧ cs.toList[i]? = some (bv z) := fun i hi => by
    have h1 := hp i hi
    rw [List.getElem?_eq_getElem (by omega)] at h1
    obtain ⟨z, hz, _, hw⟩ := DataW.trod_int he h1
    rw [hc, Nat.mul_one] at hz
    have hb := bounds_u8 hw
    obtain ⟨z, rfl⟩ := Int.eq_ofNat_of_zero_le hb.1
    refine ⟨z, by omega, ?_⟩
    have : (List.take 1 (List.drop i cs.toList))[0]? = some (.int .u8 (z : Int)) := by simp only [Value.cells] at hz; rw [hz]; rfl
    rw [List.getElem?_take, if_pos (by omega), List.getElem?_drop, Nat.add_zero] at this
    exact this
  have hl : cs.toList.length = n := by simpa using hsz
  refine ⟨cs.toList.map byteOf, ?_, by rw [List.length_map, hl], fun x hxm => ?_⟩
  · congr 1
    apply Array.ext'
    rw [List.toList_toArray]
    apply List.ext_getElem?
    intro i
    rw [bvs_get, List.getElem?_map]
    by_cases hi : i < n
    · obtain ⟨z, _, hz⟩ := hx i hi
      rw [hz]; rfl
    · rw [List.getElem?_eq_none (by omega)]; rfl
  · obtain ⟨v, hv, rfl⟩ := List.mem_map.1 hxm
    obtain ⟨i, hi⟩ := List.mem_iff_getElem?.1 hv
    obtain ⟨z, hz, hz2⟩ := hx i (by rw [← hl]; exact (List.getElem?_eq_some_iff.1 hi).1)
    rw [hi] at hz2
    cases hz2
    exact hz

end Go.Proofs.YtllohbgejjbagaaDoor
