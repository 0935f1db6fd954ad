/-
  Several texts in one: HCalls, LSameSums, LStr, HAlive, HTools, LVar, WNext, WLead, WEnd, WCheck, KIs, KMiss, KPair, KNext, KBuild, KLead, KLeadAll, KEnds, KCheck, HTools2.
-/
import Derived.Test.YtllohbgejjbagaaDoorChT1
import Derived.Test.YtllohbgejjbagaaDoorLSum
import Derived.Deep.QuietTactic
import Derived.BigQuiet
import Derived.Test.YtllohbgejjbagaaDoorLSums
import Derived.Test.YtllohbgejjbagaaDoorLMem
import Derived.Laws.BytesArg
import Derived.Laws.IdiomStrings
import Derived.Test.YtllohbgejjbagaaDoorLBArr
import Derived.Test.YtllohbgejjbagaaDoorLBut
import Derived.Test.YtllohbgejjbagaaDoorVTools
import Derived.Recover
import Derived.Deep.MidRow
import Derived.WalkKit
import Derived.LaidEql
import Derived.Stop.Asserts
import Derived.RowKitTokens
import Derived.Test.YtllohbgejjbagaaDoorVList
import Derived.Laws.Tables
import Derived.Test.YtllohbgejjbagaaDoorVNode
import Derived.Laws.EntriesVeiled
/-
  chains: what each call answers, whatever is asked, as functions of the entries.
-/
namespace Go.Proofs.YtllohbgejjbagaaDoor
open Go.RowKit

def markV (l : List (List Nat)) (n : Nat) : List Nat := if n ≤ l.length then markL (l.take n) else zero32
def rootV (l : List (List Nat)) (n : Nat) : List Nat := if n ≤ l.length then rt (lf l) 0 n else zero32
def pathOk (l : List (List Nat)) (a n : Nat) : Prop := n ≤ l.length ∧ a < n
def linkOk (l : List (List Nat)) (a n : Nat) : Prop := n ≤ l.length ∧ 1 ≤ a ∧ a ≤ n
instance (l : List (List Nat)) (a n : Nat) : Decidable (pathOk l a n) := inferInstanceAs (Decidable (_ ∧ _))
instance (l : List (List Nat)) (a n : Nat) : Decidable (linkOk l a n) := inferInstanceAs (Decidable (_ ∧ _))
def pathE (l : List (List Nat)) (a n : Nat) : Int := if pathOk l a n then 0 else 1
def linkE (l : List (List Nat)) (a n : Nat) : Int := if linkOk l a n then 0 else 1
def pathN (l : List (List Nat)) (a n : Nat) : Nat := if pathOk l a n then dep a n else 0
def linkN (l : List (List Nat)) (a n : Nat) : Nat := if linkOk l a n then ldep a n true else 0
def pathS (l : List (List Nat)) (a n : Nat) : List Nat := if pathOk l a n then (pathL (lf l) 0 n a).flatten else []
def linkS (l : List (List Nat)) (a n : Nat) : List Nat := if linkOk l a n then (linkL (lf l) 0 n a true).flatten else []

theorem markV_length (l : List (List Nat)) (n : Nat) : (markV l n).length = 32 := by unfold markV; split; exact markL_length _; rfl
theorem markV_lt (l : List (List Nat)) (n : Nat) : ∀ x ∈ markV l n, x < 256 := by unfold markV; split; exact markL_lt _; exact zero32_lt
theorem rootV_length (l : List (List Nat)) (n : Nat) : (rootV l n).length = 32 := by
  unfold rootV; split
  · exact rt_length (lf l) 0 n fun j _ => lf_length l _
  · rfl
theorem rootV_lt (l : List (List Nat)) (n : Nat) : ∀ x ∈ rootV l n, x < 256 := by
  unfold rootV; split
  · exact rt_lt (lf l) 0 n fun j _ => lf_lt l _
  · exact zero32_lt
theorem pathS_lt (l : List (List Nat)) (a n : Nat) : ∀ x ∈ pathS l a n, x < 256 := by
  unfold pathS; split
  · intro x hx
    obtain ⟨q, hq, hxq⟩ := List.mem_flatten.1 hx
    exact pathL_of (P := fun q => ∀ x ∈ q, x < 256) (lf l) n 0 a (fun i m => rt_lt (lf l) i m fun j _ => lf_lt l _) q hq x hxq
  · intro x hx; cases hx
theorem linkS_lt (l : List (List Nat)) (a n : Nat) : ∀ x ∈ linkS l a n, x < 256 := by
  unfold linkS; split
  · intro x hx
    obtain ⟨q, hq, hxq⟩ := List.mem_flatten.1 hx
    exact linkL_of (P := fun q => ∀ x ∈ q, x < 256) (lf l) n 0 a true (fun i m => rt_lt (lf l) i m fun j _ => lf_lt l _) q hq x hxq
  · intro x hx; cases hx

section
variable {w : World} {g : Nat} {G : Nat → Prop} {l : List (List Nat)}
theorem c_size (h : Chain w g G l) : Calls Tryd.prog 14 #[.pointer (some ⟨g, 0, none⟩)] w fun e w' => e = .returned (.int .u64 (l.length : Int)) ∧ w' = w := by
  obtain ⟨⟨gf, fA, fc, v, E, h⟩, hG⟩ := h
  exact hsize_at h
theorem c_mark (h : Chain w g G l) (hl : l.length ≤ 65536) (n : Nat) :
    Calls Tryd.prog 9 #[.pointer (some ⟨g, 0, none⟩), .int .u64 (n : Int)] w fun e w' => e = .returned (.tuple #[sv (markV l n), .int .i64 (hasE l n)]) ∧ Below w.heap.size w w' := by
  obtain ⟨⟨gf, fA, fc, v, E, h⟩, hG⟩ := h
  unfold markV hasE
  by_cases hn : n ≤ l.length
  · rw [if_pos hn, if_pos hn]; exact hmark_yes h hG hn hl
  · rw [if_neg hn, if_neg hn]; exact hmark_no h hG hn
theorem c_root (h : Chain w g G l) (hl : l.length ≤ 65536) (n : Nat) (hk : Knows w) (hs : Starts w) :
    Calls Tryd.prog 10 #[.pointer (some ⟨g, 0, none⟩), .int .u64 (n : Int)] w fun e w' => e = .returned (.tuple #[sv (rootV l n), .int .i64 (hasE l n)]) ∧ Below w.heap.size w w' := by
  obtain ⟨⟨gf, fA, fc, v, E, h⟩, hG⟩ := h
  unfold rootV hasE
  by_cases hn : n ≤ l.length
  · rw [if_pos hn, if_pos hn]; exact hroot_yes h hG hn hl hk hs
  · rw [if_neg hn, if_neg hn]; exact hroot_no h hG hn
theorem c_path (h : Chain w g G l) (hl : l.length ≤ 65536) (a n : Nat) (hk : Knows w) (hs : Starts w) :
    Calls Tryd.prog 11 #[.pointer (some ⟨g, 0, none⟩), .int .u64 (a : Int), .int .u64 (n : Int)] w fun e w' => ∃ A c, e = .returned (.tuple #[.slice A (pathN l a n) c, .int .i64 (pathE l a n)]) ∧
      w'.ownsRow w.heap.size 34 32 (.slice A (pathN l a n) c) (pathN l a n) (bvs (pathS l a n)) ∧ Below w.heap.size w w' := by
  obtain ⟨⟨gf, fA, fc, v, E, h⟩, hG⟩ := h
  unfold pathE pathN pathS
  by_cases hn : n ≤ l.length
  · by_cases ha : a < n
    · have ok : pathOk l a n := ⟨hn, ha⟩
      rw [if_pos ok, if_pos ok, if_pos ok]
      refine (hpath_yes h hn hl ha hk hs).mono ?_
      rintro e w' ⟨u, c, rfl, A, c', rfl, rfl, ho, hb⟩
      exact ⟨A, c', rfl, ho, hb⟩
    · have ok : ¬ pathOk l a n := fun h => ha h.2
      rw [if_neg ok, if_neg ok, if_neg ok]
      refine (hpath_no h hn hl ha).mono ?_
      rintro e w' ⟨u, c, rfl, rfl, rfl, hb⟩
      exact ⟨none, 0, rfl, own_none _ _ _ _, hb⟩
  · have ok : ¬ pathOk l a n := fun h => hn h.1
    rw [if_neg ok, if_neg ok, if_neg ok]
    refine (hpath_far h hn a).mono ?_
    rintro e w' ⟨rfl, rfl⟩
    exact ⟨none, 0, rfl, own_none _ _ _ _, Below.refl _ _⟩
theorem c_link (h : Chain w g G l) (hl : l.length ≤ 65536) (a n : Nat) (hk : Knows w) (hs : Starts w) :
    Calls Tryd.prog 12 #[.pointer (some ⟨g, 0, none⟩), .int .u64 (a : Int), .int .u64 (n : Int)] w fun e w' => ∃ A c, e = .returned (.tuple #[.slice A (linkN l a n) c, .int .i64 (linkE l a n)]) ∧
      w'.ownsRow w.heap.size 34 32 (.slice A (linkN l a n) c) (linkN l a n) (bvs (linkS l a n)) ∧ Below w.heap.size w w' := by
  obtain ⟨⟨gf, fA, fc, v, E, h⟩, hG⟩ := h
  unfold linkE linkN linkS
  by_cases hn : n ≤ l.length
  · by_cases ha : 1 ≤ a ∧ a ≤ n
    · have ok : linkOk l a n := ⟨hn, ha⟩
      rw [if_pos ok, if_pos ok, if_pos ok]
      refine (hlink_yes h hn hl ha.1 ha.2 hk hs).mono ?_
      rintro e w' ⟨u, c, rfl, A, c', rfl, rfl, ho, hb⟩
      exact ⟨A, c', rfl, ho, hb⟩
    · have ok : ¬ linkOk l a n := fun h => ha h.2
      rw [if_neg ok, if_neg ok, if_neg ok]
      refine (hlink_no h hn hl ha).mono ?_
      rintro e w' ⟨u, c, rfl, rfl, rfl, hb⟩
      exact ⟨none, 0, rfl, own_none _ _ _ _, hb⟩
  · have ok : ¬ linkOk l a n := fun h => hn h.1
    rw [if_neg ok, if_neg ok, if_neg ok]
    refine (hlink_far h hn a).mono ?_
    rintro e w' ⟨rfl, rfl⟩
    exact ⟨none, 0, rfl, own_none _ _ _ _, Below.refl _ _⟩
/-- An entry, or none. -/
theorem c_entry (h : Chain w g G l) (n : Nat) :
    Calls Tryd.prog 8 #[.pointer (some ⟨g, 0, none⟩), .int .u64 (n : Int)] w fun e w' => ∃ A c, e = .returned (.tuple #[.slice A (l.getD n []).length c, .int .i64 (if n < l.length then 0 else 1)]) ∧
      w'.ownsRow w.heap.size 5 1 (.slice A (l.getD n []).length c) (l.getD n []).length (bvs (l.getD n [])) ∧ Below w.heap.size w w' := by
  obtain ⟨⟨gf, fA, fc, v, E, h⟩, hG⟩ := h
  by_cases hn : n < l.length
  · rw [if_pos hn, List.getD_eq_getElem?_getD, List.getElem?_eq_getElem hn]
    refine (hentry_yes h (List.getElem?_eq_getElem hn)).mono ?_
    rintro e w' ⟨u, rfl, ho, hb⟩
    obtain ⟨A, c, rfl⟩ := own_form ho
    exact ⟨A, c, rfl, ho, hb⟩
  · rw [if_neg hn, List.getD_eq_getElem?_getD, List.getElem?_eq_none (by omega)]
    refine (hentry_no h (by omega)).mono ?_
    rintro e w' ⟨rfl, rfl⟩
    exact ⟨none, 0, rfl, own_none _ _ _ _, Below.refl _ _⟩
end

end Go.Proofs.YtllohbgejjbagaaDoor

/-
  SameSums.
-/
namespace Go.Proofs.YtllohbgejjbagaaDoor
open Go.RowKit

set_option maxRecDepth 100000 in
set_option maxHeartbeats 1000000 in
theorem sameSums_yes (A A2 : Option Addr) (n c c2 : Nat) (ys : List Nat) (w : World) (hin : InS w A n ys) (hin2 : InS w A2 n ys) (hn : n ≤ 200000000000000) :
    Calls Tryd.prog 18 #[.slice A n c, .slice A2 n c2] w fun e w' => e = .returned (.bool true) ∧ ∃ q, w' = w.drewN q := by
  have dn : ((n : Int) != (n : Int)) = false := by simp
  go_enter Tryd.func18, Tryd.ntmps18
  go_wp2
  go_loopw [5] (fun i wr => ∃ j : Nat, j ≤ n ∧ i = .int .i64 (j : Int) ∧ ∃ q, wr = w.drewN q) (fun i _ => n - (intOf i).toNat)
  case atStart => exact ⟨0, Nat.zero_le _, rfl, 0, rfl⟩
  case round =>
    obtain ⟨j, hj, rfl, q, rfl⟩ := hrel
    by_cases hlt : j < n
    · obtain ⟨ad, rfl, hl, hat⟩ := hin.at_ hlt
      obtain ⟨ad2, rfl, _, hat2⟩ := hin2.at_ hlt
      have i1 : (j : Int) < (n : Int) := by omega
      go_wp2
      refine wp_region_quiet_lit (by kernel_rfl) (by kernel_rfl) ?_
      iterate 3 quiet_step (fail)
      refine wpQuiet_step (fun K hK => ?_)
      refine quiet_load_sum rfl (.tmp 19) rfl (ad.add (j * 32)) rfl (nth ys j) hl (fun W hW => by obtain ⟨m, rfl⟩ := hW; exact hat) ?_
      go_simp
      refine hK _ ?_
      clear hK K
      iterate 3 quiet_step (fail)
      refine wpQuiet_step (fun K hK => ?_)
      refine quiet_load_sum rfl (.tmp 23) rfl (ad2.add (j * 32)) rfl (nth ys j) hl (fun W hW => by obtain ⟨m, rfl⟩ := hW; exact hat2) ?_
      go_simp
      refine hK _ ?_
      clear hK K
      have hne := run_neq_sum (nth ys j) (nth ys j) hl hl
      simp only [decide_true, Bool.not_true] at hne
      have hgd := fun x y => run_guard_neq x y (nth ys j) (nth ys j)
      quiet_step (fail)
      refine wpQuiet_nil ?_
      rintro _ ⟨nq, rfl⟩
      rw [World.drewN_drewN]
      clear hne hgd
      go_wp2
      go_roundw
      case rel => exact ⟨j + 1, by omega, by go_num, q + nq, rfl⟩
      case measure => simp [intOf]; omega
    · go_wp2
      go_ret
      exact ⟨rfl, q, rfl⟩

end Go.Proofs.YtllohbgejjbagaaDoor

/-
  string(b) of a slice of bytes.
-/
namespace Go.Proofs.YtllohbgejjbagaaDoor
open Go.RowKit

def strL (xs : List Nat) : ByteArray := ⟨(xs.map UInt8.ofNat).toArray⟩
theorem strL_inj {xs ys : List Nat} (hx : ∀ x ∈ xs, x < 256) (hy : ∀ y ∈ ys, y < 256) (h : strL xs = strL ys) : xs = ys := by
  have h1 : xs.map UInt8.ofNat = ys.map UInt8.ofNat := by
    have := congrArg ByteArray.data h
    exact congrArg Array.toList this
  have back : ∀ zs : List Nat, (∀ z ∈ zs, z < 256) → (zs.map UInt8.ofNat).map UInt8.toNat = zs := by
    intro zs
    induction zs with
    | nil => intro _; rfl
    | cons z zs ih =>
      intro hz
      have hz0 := hz z (by simp)
      have e : (UInt8.ofNat z).toNat = z := by simp; omega
      simp only [List.map_cons, List.cons.injEq]
      exact ⟨e, ih fun y hy => hz y (by simp [hy])⟩
  rw [← back xs hx, ← back ys hy, h1]

theorem conv_str {w : World} {A : Option Addr} {n : Nat} {xs : List Nat} (hin : In w A n xs) (hx : ∀ x ∈ xs, x < 256) (c : Nat) :
    (convert 22 9 (.slice A n c)).run Tryd.prog w = .ok (.string (strL xs)) w := by
  cases A with
  | none =>
    have h0 : xs = [] := by
      cases xs with
      | nil => rfl
      | cons x xs =>
        obtain ⟨ad, e, _⟩ := hin.rd 0 x rfl
        cases e
    subst h0
    exact run_convert_bytes_nil (P := Tryd.prog) w 22 5 Tryd.underlying22 Tryd.underlying5 n c 9 Tryd.underlying9
  | some a =>
    have := run_convert_bytes_back (P := Tryd.prog) w 22 9 5 a c (xs.map UInt8.ofNat) Tryd.underlying22 Tryd.underlying5 Tryd.underlying9 (fun j hj => by
      rw [List.length_map] at hj
      obtain ⟨ad, e, hc⟩ := hin.rd j _ (List.getElem?_eq_getElem hj)
      cases e
      rw [hc]
      have hb := hx _ (List.getElem_mem hj)
      simp only [List.getElem_map, bv]
      congr 2
      have e : (UInt8.ofNat xs[j]).toNat = xs[j] := by simp; omega
      rw [e])
    rw [List.length_map, hin.len] at this
    exact this

theorem toList_loop (s : ByteArray) : ∀ (k i : Nat) (r : List UInt8), s.size - i = k → ByteArray.toList.loop s i r = r.reverse ++ s.data.toList.drop i := by
  intro k
  induction k with
  | zero =>
    intro i r hk
    unfold ByteArray.toList.loop
    rw [if_neg (by omega), List.drop_of_length_le (by have : s.data.toList.length = s.size := rfl
                                                      omega)]
    simp
  | succ k ih =>
    intro i r hk
    unfold ByteArray.toList.loop
    have hi : i < s.data.toList.length := by
      have : s.data.toList.length = s.size := rfl
      omega
    rw [if_pos (by omega), ih (i + 1) _ (by omega), List.drop_eq_getElem_cons hi]
    have e : s.get! i = s.data.toList[i] := by
      have hi' : i < s.data.size := by simpa using hi
      show s.data[i]! = _
      rw [getElem!_pos s.data i hi']
      simp
    rw [e]
    simp
theorem toList_data (s : ByteArray) : s.toList = s.data.toList := by
  unfold ByteArray.toList
  rw [toList_loop s _ 0 [] rfl]
  simp
theorem strL_toList (xs : List Nat) : (strL xs).toList = xs.map UInt8.ofNat := by rw [toList_data]; rfl
theorem map_inj {xs ys : List Nat} (hx : ∀ x ∈ xs, x < 256) (hy : ∀ y ∈ ys, y < 256) (h : xs.map UInt8.ofNat = ys.map UInt8.ofNat) : xs = ys :=
  strL_inj hx hy (by unfold strL; rw [h])

end Go.Proofs.YtllohbgejjbagaaDoor

/-
  almonerlaw12.alive.
-/
namespace Go.Proofs.YtllohbgejjbagaaDoor
open Go.RowKit

/-- A byte that a literal made, behind whatever memory. -/
theorem hcame_one (x : Nat) (hx : x < 256) (W : World) : Came (W.alloc (.cells #[.int .u8 (x : Int)] 5 (1, 2))) (some ⟨W.heap.size, 0, none⟩) 1 1 [x] :=
  ⟨⟨rfl, fun j y hy => ⟨_, rfl, by
    have hj := (List.getElem?_eq_some_iff.1 hy).1
    obtain rfl : j = 0 := by simp at hj; omega
    cases hy
    exact cell_of_row _ _ 0 _ _ (1, 2) (World.alloc_heap_new W _)⟩⟩, (by intro y hy; simp at hy; omega), (fun h => by cases h), Nat.le_refl _⟩
theorem hlit_one (z : Int) (W : World) : (convert 22 22 (.slice (some ⟨W.heap.size, 0, none⟩) 1 1)).run Tryd.prog (W.alloc (.cells #[.int .u8 z] 5)) = .ok (.slice (some ⟨W.heap.size, 0, none⟩) 1 1) (W.alloc (.cells #[.int .u8 z] 5 (1, 2))) :=
  Joins.run_convert_bytes_const_at W _ _ _ 1 1 _ rfl Tryd.underlying22 Tryd.underlying5

def two2 : List (List Nat) := [[97], [98]]
theorem two_lf : rootV two2 1 = leafL [97] := by unfold rootV; rw [if_pos (by decide), rt_one]; rfl
theorem two_mark0 : markV two2 0 = zero32 := by unfold markV; rw [if_pos (by decide)]; rfl
theorem two_mark3 : markV two2 3 = zero32 := by unfold markV; rw [if_neg (by decide)]
theorem two_path : pathS two2 0 2 = leafL [98] := by
  have c2 : cutN 2 = 1 := by decide
  unfold pathS
  rw [if_pos (show pathOk two2 0 2 from ⟨by decide, by omega⟩), pathL_low _ (by omega) (by omega), c2, pathL_one _ (by omega), rt_one]
  simp
  rfl
theorem two_pathN : pathN two2 0 2 = 1 := by
  unfold pathN
  have c2 : cutN 2 = 1 := by decide
  have := pathL_length (lf two2) 2 0 0
  rw [if_pos (show pathOk two2 0 2 from ⟨by decide, by omega⟩), ← this, pathL_low _ (by omega) (by omega), c2, pathL_one _ (by omega)]
  rfl
theorem two_link : linkS two2 1 2 = leafL [98] := by
  have c2 : cutN 2 = 1 := by decide
  unfold linkS
  rw [if_pos (show linkOk two2 1 2 from ⟨by decide, by omega, by omega⟩), linkL_low _ (by omega) (by omega), c2, linkL_all _ (by omega)]
  simp
  rw [rt_one]
  rfl
theorem two_linkN : linkN two2 1 2 = 1 := by
  unfold linkN
  have c2 : cutN 2 = 1 := by decide
  have := linkL_length (lf two2) 2 0 1 true
  rw [if_pos (show linkOk two2 1 2 from ⟨by decide, by omega, by omega⟩), ← this, linkL_low _ (by omega) (by omega), c2, linkL_all _ (by omega)]
  rfl
theorem two_no : linkN two2 0 2 = 0 := by unfold linkN; rw [if_neg (fun h => by have := h.2.1; omega)]
theorem two_h0 : hasE two2 0 = 0 := by unfold hasE; rw [if_pos (by decide)]
theorem two_h1 : hasE two2 1 = 0 := by unfold hasE; rw [if_pos (by decide)]
theorem two_h3 : hasE two2 3 = 1 := by unfold hasE; rw [if_neg (by decide)]
theorem two_pe : pathE two2 0 2 = 0 := by unfold pathE; rw [if_pos (show pathOk two2 0 2 from ⟨by decide, by omega⟩)]
theorem two_le : linkE two2 1 2 = 0 := by unfold linkE; rw [if_pos (show linkOk two2 1 2 from ⟨by decide, by omega, by omega⟩)]
theorem two_ln : linkE two2 0 2 = 1 := by unfold linkE; rw [if_neg (fun h => by have := h.2.1; omega)]
theorem str_b : strL [98] = { data := #[98] } := rfl

set_option maxRecDepth 100000 in
set_option maxHeartbeats 8000000 in
theorem halive_any (w : World) (hk : Knows w) (hs : Starts w) :
    Calls Tryd.prog 16 #[] w fun e w' => e = .returned (.bool true) ∧ Below w.heap.size w w' := by
  have HN := Lib.hid (new_chain w)
  obtain ⟨z, hz⟩ : ∃ z, z = zero32 := ⟨_, rfl⟩
  have hzl : z.length = 32 := by rw [hz]; rfl
  obtain ⟨a1, ha1⟩ : ∃ a1, leafL [97] = a1 := ⟨_, rfl⟩
  have hal : a1.length = 32 := by rw [← ha1]; exact leafL_length _
  obtain ⟨b1, hb1⟩ : ∃ b1, leafL [98] = b1 := ⟨_, rfl⟩
  have hbl : b1.length = 32 := by rw [← hb1]; exact leafL_length _
  have qz : ∀ W : World, (binOp .eql 34 (sv z) (.agg #[.int .u8 0, .int .u8 0, .int .u8 0, .int .u8 0, .int .u8 0, .int .u8 0, .int .u8 0, .int .u8 0, .int .u8 0, .int .u8 0, .int .u8 0, .int .u8 0, .int .u8 0, .int .u8 0, .int .u8 0, .int .u8 0, .int .u8 0, .int .u8 0, .int .u8 0, .int .u8 0, .int .u8 0, .int .u8 0, .int .u8 0, .int .u8 0, .int .u8 0, .int .u8 0, .int .u8 0, .int .u8 0, .int .u8 0, .int .u8 0, .int .u8 0, .int .u8 0])).run Tryd.prog W = .ok (.bool true) W := fun W => by
    have := run_eql_sum z zero32 hzl rfl W
    rw [decide_eq_true hz] at this
    exact this
  have qa := run_eql_sum a1 a1 hal hal
  rw [decide_eq_true rfl] at qa
  have gz : ∀ (x y : Operand) (W : World), (eqGuard .eql 34 x y (sv z) (.agg #[.int .u8 0, .int .u8 0, .int .u8 0, .int .u8 0, .int .u8 0, .int .u8 0, .int .u8 0, .int .u8 0, .int .u8 0, .int .u8 0, .int .u8 0, .int .u8 0, .int .u8 0, .int .u8 0, .int .u8 0, .int .u8 0, .int .u8 0, .int .u8 0, .int .u8 0, .int .u8 0, .int .u8 0, .int .u8 0, .int .u8 0, .int .u8 0, .int .u8 0, .int .u8 0, .int .u8 0, .int .u8 0, .int .u8 0, .int .u8 0, .int .u8 0, .int .u8 0])).run Tryd.prog W = .ok () W := fun x y W => run_guard_eql x y z zero32 W
  have ga := run_guard_eql
  have hk2 := hk
  have HK := Lib.hid (And.intro hk hs)
  have HE := Lib.hid (And.intro hz (And.intro ha1 hb1))
  clear hk hs hz ha1 hb1 hk2
  go_enter Tryd.func16, Tryd.ntmps16
  go_wp2_with fail
  refine HN.out.mono ?_
  rintro e w1 ⟨g, rfl, c1, c2⟩
  have HM1 := Lib.hid (MadeAt.mk (w := w) c2 (fun x hx => hx.1) c1)
  clear c1 c2 HN
  have k1 := hlit_one 97 w1
  have bl1 := below_alloc w1 (.cells #[.int .u8 ((97 : Nat) : Int)] 5 (1, 2))
  have CA1 := Lib.hid (hadd_yes (HM1.out.below bl1).chain (by decide) (hcame_one 97 (by omega) w1) (by omega) (away_of HK.out.1 HK.out.2 HM1.out.new) (HK.out.1.below (HM1.out.below bl1).bel) (HK.out.2.below (HM1.out.below bl1).bel))
  have HG1 := Lib.hid (HM1.out.below bl1)
  clear bl1
  go_wp2_with fail
  refine CA1.out.mono ?_
  rintro e w2 ⟨rfl, hg⟩
  obtain ⟨G2, hm⟩ := HG1.out.grew hg
  have HM2 := Lib.hid hm
  clear hm hg CA1 HG1 HM1 k1
  have k2 := hlit_one 98 w2
  have bl2 := below_alloc w2 (.cells #[.int .u8 ((98 : Nat) : Int)] 5 (1, 2))
  have CA2 := Lib.hid (hadd_yes (HM2.out.below bl2).chain (by decide) (hcame_one 98 (by omega) w2) (by omega) (away_of HK.out.1 HK.out.2 HM2.out.new) (HK.out.1.below (HM2.out.below bl2).bel) (HK.out.2.below (HM2.out.below bl2).bel))
  have HG2 := Lib.hid (HM2.out.below bl2)
  clear bl2
  go_wp2_with fail
  refine CA2.out.mono ?_
  rintro e w3 ⟨rfl, hg⟩
  obtain ⟨G3, hm⟩ := HG2.out.grew hg
  have HM3 := Lib.hid hm
  clear hm hg CA2 HG2 HM2 k2
  have HM3' : Hid (MadeAt w w3 g G3 two2) := HM3
  clear HM3
  have HF3 := Lib.hid (And.intro HM3'.out trivial)
  clear HM3'
  have CT := c_entry HF3.out.1.chain 1
  rw [show two2.getD 1 [] = [98] from rfl, show ([98] : List Nat).length = 1 from rfl] at CT
  have C1 := Lib.hid CT
  clear CT
  go_wp2_with fail
  refine C1.out.mono ?_
  rintro e w4 ⟨A4, d4, rfl, ho4, hb4⟩
  clear C1
  have HF4 := Lib.hid (And.intro (HF3.out.1.below hb4) (And.intro (In.of_own (xs := [98]) (A := A4) (n := 1) (c := d4) ho4) trivial))
  clear HF3
  clear ho4 hb4
  have C2 := Lib.hid (c_entry HF4.out.1.chain 2)
  go_wp2_with fail
  refine C2.out.mono ?_
  rintro e w5 ⟨A5, d5, rfl, ho5, hb5⟩
  clear C2
  have HF5 := Lib.hid (And.intro (HF4.out.1.below hb5) (And.intro (HF4.out.2.1.below hb5) trivial))
  clear HF4
  clear ho5 hb5
  have CT := c_mark HF5.out.1.chain (by decide) 0
  rw [two_mark0, ← HE.out.1, two_h0] at CT
  have C1 := Lib.hid CT
  clear CT
  go_wp2_with fail
  refine C1.out.mono ?_
  rintro e w6 ⟨rfl, hb6⟩
  clear C1
  have HF6 := Lib.hid (And.intro (HF5.out.1.below hb6) (And.intro (HF5.out.2.1.below hb6) trivial))
  clear HF5
  clear hb6
  obtain ⟨w7, hw⟩ : ∃ w7, w7 = w6.alloc (.cells (bvs z).toArray 34) := ⟨_, rfl⟩
  have hb7 : Below w6.heap.size w6 w7 := by rw [hw]; exact below_alloc _ _
  have hn7 : BArr w7 w6.heap.size 34 z := by rw [hw]; exact BArr.new _ _ _
  have HW := Lib.hid hw
  clear hw
  go_wp2_with (with_reducible refine wpList_store_new w6 _ (by simp) rfl (.tmp 8) (.tmp 43) rfl rfl z hzl rfl ?_; rw [← HW.out])
  clear HW
  obtain ⟨g7, hg7⟩ : ∃ g, w6.heap.size = g := ⟨_, rfl⟩
  rw [hg7] at hn7
  have HF7 := Lib.hid (And.intro (HF6.out.1.below hb7) (And.intro (HF6.out.2.1.below hb7) (And.intro (hn7) trivial)))
  clear HF6
  rw [hg7]
  clear hn7 hb7 hg7
  have CT := c_mark HF7.out.1.chain (by decide) 3
  rw [two_mark3, ← HE.out.1, two_h3] at CT
  have C1 := Lib.hid CT
  clear CT
  go_wp2_with fail
  refine C1.out.mono ?_
  rintro e w8 ⟨rfl, hb8⟩
  clear C1
  have HF8 := Lib.hid (And.intro (HF7.out.1.below hb8) (And.intro (HF7.out.2.1.below hb8) (And.intro (HF7.out.2.2.1.below hb8) trivial)))
  clear HF7
  clear hb8
  obtain ⟨w9, hw⟩ : ∃ w9, w9 = w8.alloc (.cells (bvs z).toArray 34) := ⟨_, rfl⟩
  have hb9 : Below w8.heap.size w8 w9 := by rw [hw]; exact below_alloc _ _
  have hn9 : BArr w9 w8.heap.size 34 z := by rw [hw]; exact BArr.new _ _ _
  have HW := Lib.hid hw
  clear hw
  go_wp2_with (with_reducible refine wpList_store_new w8 _ (by simp) rfl (.tmp 10) (.tmp 48) rfl rfl z hzl rfl ?_; rw [← HW.out])
  clear HW
  obtain ⟨g9, hg9⟩ : ∃ g, w8.heap.size = g := ⟨_, rfl⟩
  rw [hg9] at hn9
  have HF9 := Lib.hid (And.intro (HF8.out.1.below hb9) (And.intro (HF8.out.2.1.below hb9) (And.intro (HF8.out.2.2.1.below hb9) (And.intro (hn9) trivial))))
  clear HF8
  rw [hg9]
  clear hn9 hb9 hg9
  have CT := c_root HF9.out.1.chain (by decide) 1 (HK.out.1.below HF9.out.1.bel) (HK.out.2.below HF9.out.1.bel)
  rw [two_lf, HE.out.2.1, two_h1] at CT
  have C1 := Lib.hid CT
  clear CT
  go_wp2_with fail
  refine C1.out.mono ?_
  rintro e w10 ⟨rfl, hb10⟩
  clear C1
  have HF10 := Lib.hid (And.intro (HF9.out.1.below hb10) (And.intro (HF9.out.2.1.below hb10) (And.intro (HF9.out.2.2.1.below hb10) (And.intro (HF9.out.2.2.2.1.below hb10) trivial))))
  clear HF9
  clear hb10
  obtain ⟨w11, hw⟩ : ∃ w11, w11 = w10.alloc (.cells (bvs a1).toArray 34) := ⟨_, rfl⟩
  have hb11 : Below w10.heap.size w10 w11 := by rw [hw]; exact below_alloc _ _
  have hn11 : BArr w11 w10.heap.size 34 a1 := by rw [hw]; exact BArr.new _ _ _
  have HW := Lib.hid hw
  clear hw
  go_wp2_with (with_reducible refine wpList_store_new w10 _ (by simp) rfl (.tmp 12) (.tmp 53) rfl rfl a1 hal rfl ?_; rw [← HW.out])
  clear HW
  obtain ⟨g11, hg11⟩ : ∃ g, w10.heap.size = g := ⟨_, rfl⟩
  rw [hg11] at hn11
  have HF11 := Lib.hid (And.intro (HF10.out.1.below hb11) (And.intro (HF10.out.2.1.below hb11) (And.intro (HF10.out.2.2.1.below hb11) (And.intro (HF10.out.2.2.2.1.below hb11) (And.intro (hn11) trivial)))))
  clear HF10
  rw [hg11]
  clear hn11 hb11 hg11
  have CT := c_path HF11.out.1.chain (by decide) 0 2 (HK.out.1.below HF11.out.1.bel) (HK.out.2.below HF11.out.1.bel)
  rw [two_pathN, two_path, HE.out.2.2, two_pe] at CT
  have C1 := Lib.hid CT
  clear CT
  go_wp2_with fail
  refine C1.out.mono ?_
  rintro e w12 ⟨A12, d12, rfl, ho12, hb12⟩
  clear C1
  have HF12 := Lib.hid (And.intro (HF11.out.1.below hb12) (And.intro (HF11.out.2.1.below hb12) (And.intro (HF11.out.2.2.1.below hb12) (And.intro (HF11.out.2.2.2.1.below hb12) (And.intro (HF11.out.2.2.2.2.1.below hb12) (And.intro (InS.of_own (ys := b1) (A := A12) (n := 1) (c := d12) ho12) trivial))))))
  clear HF11
  clear ho12 hb12
  have CT := c_link HF12.out.1.chain (by decide) 1 2 (HK.out.1.below HF12.out.1.bel) (HK.out.2.below HF12.out.1.bel)
  rw [two_linkN, two_link, HE.out.2.2, two_le] at CT
  have C1 := Lib.hid CT
  clear CT
  go_wp2_with fail
  refine C1.out.mono ?_
  rintro e w13 ⟨A13, d13, rfl, ho13, hb13⟩
  clear C1
  have HF13 := Lib.hid (And.intro (HF12.out.1.below hb13) (And.intro (HF12.out.2.1.below hb13) (And.intro (HF12.out.2.2.1.below hb13) (And.intro (HF12.out.2.2.2.1.below hb13) (And.intro (HF12.out.2.2.2.2.1.below hb13) (And.intro (HF12.out.2.2.2.2.2.1.below hb13) (And.intro (InS.of_own (ys := b1) (A := A13) (n := 1) (c := d13) ho13) trivial)))))))
  clear HF12
  clear ho13 hb13
  have CT := c_link HF13.out.1.chain (by decide) 0 2 (HK.out.1.below HF13.out.1.bel) (HK.out.2.below HF13.out.1.bel)
  rw [two_no, two_ln] at CT
  have C1 := Lib.hid CT
  clear CT
  go_wp2_with fail
  refine C1.out.mono ?_
  rintro e w14 ⟨A14, d14, rfl, ho14, hb14⟩
  clear C1
  have HF14 := Lib.hid (And.intro (HF13.out.1.below hb14) (And.intro (HF13.out.2.1.below hb14) (And.intro (HF13.out.2.2.1.below hb14) (And.intro (HF13.out.2.2.2.1.below hb14) (And.intro (HF13.out.2.2.2.2.1.below hb14) (And.intro (HF13.out.2.2.2.2.2.1.below hb14) (And.intro (HF13.out.2.2.2.2.2.2.1.below hb14) trivial)))))))
  clear HF13
  clear ho14 hb14
  have kl := hlit_one 98 w14
  have CT := leaf_any (some ⟨w14.heap.size, 0, none⟩) 1 1 [98] _ (hcame_one 98 (by omega) w14) (HK.out.1.below (below_on HF14.out.1.bel (Nat.le_refl _) (below_alloc w14 _))) (HK.out.2.below (below_on HF14.out.1.bel (Nat.le_refl _) (below_alloc w14 _))) (by omega)
  rw [HE.out.2.2] at CT
  have C1 := Lib.hid CT
  clear CT
  go_wp2_with fail
  refine C1.out.mono ?_
  rintro e w15 ⟨rfl, hb⟩
  have hb15 := below_on (below_alloc w14 (.cells #[.int .u8 ((98 : Nat) : Int)] 5 (1, 2))) (Nat.le_refl _) hb
  clear C1 kl hb
  have HF15 := Lib.hid (And.intro (HF14.out.1.below hb15) (And.intro (HF14.out.2.1.below hb15) (And.intro (HF14.out.2.2.1.below hb15) (And.intro (HF14.out.2.2.2.1.below hb15) (And.intro (HF14.out.2.2.2.2.1.below hb15) (And.intro (HF14.out.2.2.2.2.2.1.below hb15) (And.intro (HF14.out.2.2.2.2.2.2.1.below hb15) trivial)))))))
  clear HF14
  clear hb15
  obtain ⟨w16, hw⟩ : ∃ w16, w16 = w15.alloc (.cells (bvs b1).toArray 34) := ⟨_, rfl⟩
  have hb16 : Below w15.heap.size w15 w16 := by rw [hw]; exact below_alloc _ _
  have hn16 : BArr w16 w15.heap.size 34 b1 := by rw [hw]; exact BArr.new _ _ _
  have HW := Lib.hid hw
  clear hw
  go_upto_region 13 with (with_reducible refine wpList_store_new w15 _ (by simp) rfl (.tmp 20) (.tmp 72) rfl rfl b1 hbl rfl ?_; rw [← HW.out])
  clear HW
  obtain ⟨g16, hg16⟩ : ∃ g, w15.heap.size = g := ⟨_, rfl⟩
  rw [hg16] at hn16
  have HF16 := Lib.hid (And.intro (HF15.out.1.below hb16) (And.intro (HF15.out.2.1.below hb16) (And.intro (HF15.out.2.2.1.below hb16) (And.intro (HF15.out.2.2.2.1.below hb16) (And.intro (HF15.out.2.2.2.2.1.below hb16) (And.intro (HF15.out.2.2.2.2.2.1.below hb16) (And.intro (HF15.out.2.2.2.2.2.2.1.below hb16) (And.intro (hn16) trivial))))))))
  clear HF15
  rw [hg16]
  clear hn16 hb16 hg16
  have CS := Lib.hid (fun (W : World) (hW : Below w16.heap.size w16 W) => (c_size (HF16.out.1.below hW).chain).mono (R' := fun e w' => e = .returned (.int .u64 2) ∧ Below w16.heap.size w16 w') fun e w' ⟨he, hw⟩ => ⟨he, by rw [hw]; exact hW⟩)
  have HIX := Lib.hid HF16.out.2.1
  have K8 := Lib.hid (fun (W : World) (hW : Below w16.heap.size w16 W) => (HF16.out.2.2.1.below hW).at_)
  have K12 := Lib.hid (fun (W : World) (hW : Below w16.heap.size w16 W) => (HF16.out.2.2.2.2.1.below hW).at_)
  have K20 := Lib.hid (fun (W : World) (hW : Below w16.heap.size w16 W) => (HF16.out.2.2.2.2.2.2.2.1.below hW).at_)
  have P14 := Lib.hid HF16.out.2.2.2.2.2.1
  have Q16 := Lib.hid HF16.out.2.2.2.2.2.2.1
  have CL := Lib.hid (fun (W : World) (hW : Below w16.heap.size w16 W) => (leaf_any (some ⟨W.heap.size, 0, none⟩) 1 1 [97] _ (hcame_one 97 (by omega) W) (HK.out.1.below (below_on (below_on HF16.out.1.bel (Nat.le_refl _) hW) (Nat.le_refl _) (below_alloc W _))) (HK.out.2.below (below_on (below_on HF16.out.1.bel (Nat.le_refl _) hW) (Nat.le_refl _) (below_alloc W _))) (by omega)).mono (R' := fun e w' => e = .returned (sv a1) ∧ Below w16.heap.size w16 w') fun e w' ⟨he, hb⟩ => ⟨by rw [he, HE.out.2.1], below_on (below_on hW (Nat.le_refl _) (below_alloc W _)) (Nat.le_refl _) hb⟩)
  have BL := Lib.hid (fun (W : World) (hW : Below w16.heap.size w16 W) => below_on HF16.out.1.bel (Nat.le_refl _) hW)
  clear HF16
  refine wp_region_held_drew (S := fun W => Below w16.heap.size w16 W) (by kernel_rfl) ((Below.refl _ _).drew) (fun hT0 => ?_)
  change wpAnyH _ _ _ _ _ _ _ _ w16.drew
  generalize w16.drew = WD at hT0 ⊢
  refine' wpAnyH_take (i := 0) (oi := _) (v := _) ?hir0 (by kernel_rfl) ?hfr0 ?hrr0 ?hQr0 ?hyr0 hT0 ?restr0
  case hir0 => (simp only [List.getElem?_toArray]; rfl)
  case hfr0 => kernel_rfl
  case hrr0 => kernel_rfl
  case hQr0 => exact fun _ _ _ h => h
  case hyr0 => refine Or.inl ⟨by rfl, ?_⟩; intro W hSw; go_simp; try with_reducible rfl
  try simp only [Act.put, List.setIfInBounds_toArray, List.set_cons_zero, List.set_cons_succ]
  refine' wpAnyH_take (i := 1) (oi := _) (v := _) ?hir1 (by kernel_rfl) ?hfr1 ?hrr1 ?hQr1 ?hyr1 hT0 ?restr1
  case hir1 => (simp only [List.getElem?_toArray]; rfl)
  case hfr1 => kernel_rfl
  case hrr1 => kernel_rfl
  case hQr1 => exact fun _ _ _ h => h
  case hyr1 => refine Or.inl ⟨by rfl, ?_⟩; intro W hSw; go_simp; try with_reducible rfl
  try simp only [Act.put, List.setIfInBounds_toArray, List.set_cons_zero, List.set_cons_succ]
  refine' wpAnyH_take (i := 2) (oi := _) (v := _) ?hir2 (by kernel_rfl) ?hfr2 ?hrr2 ?hQr2 ?hyr2 hT0 ?restr2
  case hir2 => (simp only [List.getElem?_toArray]; rfl)
  case hfr2 => kernel_rfl
  case hrr2 => kernel_rfl
  case hQr2 => exact fun _ _ _ h => h
  case hyr2 => refine Or.inl ⟨by rfl, ?_⟩; intro W hSw; go_simp; try with_reducible rfl
  try simp only [Act.put, List.setIfInBounds_toArray, List.set_cons_zero, List.set_cons_succ]
  refine' wpAnyH_take (i := 3) (oi := _) (v := _) ?hir3 (by kernel_rfl) ?hfr3 ?hrr3 ?hQr3 ?hyr3 hT0 ?restr3
  case hir3 => (simp only [List.getElem?_toArray]; rfl)
  case hfr3 => kernel_rfl
  case hrr3 => kernel_rfl
  case hQr3 => exact fun _ _ _ h => h
  case hyr3 => refine Or.inl ⟨by rfl, ?_⟩; intro W hSw; go_simp; try with_reducible rfl
  try simp only [Act.put, List.setIfInBounds_toArray, List.set_cons_zero, List.set_cons_succ]
  refine' wpAnyH_take (i := 4) (oi := _) (v := _) ?hir4 (by kernel_rfl) ?hfr4 ?hrr4 ?hQr4 ?hyr4 hT0 ?restr4
  case hir4 => (simp only [List.getElem?_toArray]; rfl)
  case hfr4 => kernel_rfl
  case hrr4 => kernel_rfl
  case hQr4 => exact fun _ _ _ h => h
  case hyr4 => refine Or.inl ⟨by rfl, ?_⟩; intro W hSw; go_simp; try with_reducible rfl
  try simp only [Act.put, List.setIfInBounds_toArray, List.set_cons_zero, List.set_cons_succ]
  refine' wpAnyH_take (i := 5) (oi := _) (v := _) ?hir5 (by kernel_rfl) ?hfr5 ?hrr5 ?hQr5 ?hyr5 hT0 ?restr5
  case hir5 => (simp only [List.getElem?_toArray]; rfl)
  case hfr5 => kernel_rfl
  case hrr5 => kernel_rfl
  case hQr5 => exact fun _ _ _ h => h
  case hyr5 => refine Or.inl ⟨by rfl, ?_⟩; intro W hSw; go_simp; try with_reducible rfl
  try simp only [Act.put, List.setIfInBounds_toArray, List.set_cons_zero, List.set_cons_succ]
  refine' wpAnyH_take (i := 6) (oi := _) (v := _) ?hir6 (by kernel_rfl) ?hfr6 ?hrr6 ?hQr6 ?hyr6 hT0 ?restr6
  case hir6 => (simp only [List.getElem?_toArray]; rfl)
  case hfr6 => kernel_rfl
  case hrr6 => kernel_rfl
  case hQr6 => exact fun _ _ _ h => h
  case hyr6 => refine Or.inl ⟨by rfl, ?_⟩; intro W hSw; go_simp; try with_reducible rfl
  try simp only [Act.put, List.setIfInBounds_toArray, List.set_cons_zero, List.set_cons_succ]
  refine' wpAnyH_take (i := 7) (oi := _) (v := _) ?hir7 (by kernel_rfl) ?hfr7 ?hrr7 ?hQr7 ?hyr7 hT0 ?restr7
  case hir7 => (simp only [List.getElem?_toArray]; rfl)
  case hfr7 => kernel_rfl
  case hrr7 => kernel_rfl
  case hQr7 => exact fun _ _ _ h => h
  case hyr7 => refine Or.inl ⟨by rfl, ?_⟩; intro W hSw; go_simp; try with_reducible rfl
  try simp only [Act.put, List.setIfInBounds_toArray, List.set_cons_zero, List.set_cons_succ]
  refine wpAnyH_ready (rs := [8]) (by kernel_rfl) (by simp) ?_
  refine' AllReadyH.cons (o := _) ?hir8 (fun K hK => ?_) AllReadyH.nil
  case hir8 => (simp only [List.getElem?_toArray]; rfl)
  go_simp
  go_at_call 14
  refine (CS.out _ hT0).mono ?_
  rintro e Wr2 ⟨rfl, hBr1⟩
  refine hK.out _ _ hBr1 (fun _ => ?_)
  clear hK K
  try simp only [Act.put, List.setIfInBounds_toArray, List.set_cons_zero, List.set_cons_succ]
  refine' wpAnyH_take (i := 9) (oi := _) (v := _) ?hir9 (by kernel_rfl) ?hfr9 ?hrr9 ?hQr9 ?hyr9 hBr1 ?restr9
  case hir9 => (simp only [List.getElem?_toArray]; rfl)
  case hfr9 => kernel_rfl
  case hrr9 => kernel_rfl
  case hQr9 => exact fun _ _ _ h => h
  case hyr9 => refine Or.inl ⟨by rfl, ?_⟩; intro W hSw; go_simp; try with_reducible rfl
  try simp only [Act.put, List.setIfInBounds_toArray, List.set_cons_zero, List.set_cons_succ]
  refine' wpAnyH_take (i := 10) (oi := _) (v := _) ?hir10 (by kernel_rfl) ?hfr10 ?hrr10 ?hQr10 ?hyr10 hBr1 ?restr10
  case hir10 => (simp only [List.getElem?_toArray]; rfl)
  case hfr10 => kernel_rfl
  case hrr10 => kernel_rfl
  case hQr10 => exact fun _ _ _ h => h
  case hyr10 => refine Or.inl ⟨by rfl, ?_⟩; intro W hSw; go_simp; try with_reducible rfl
  try simp only [Act.put, List.setIfInBounds_toArray, List.set_cons_zero, List.set_cons_succ]
  refine' wpAnyH_take (i := 11) (oi := _) (v := _) ?hir11 (by kernel_rfl) ?hfr11 ?hrr11 ?hQr11 ?hyr11 hBr1 ?restr11
  case hir11 => (simp only [List.getElem?_toArray]; rfl)
  case hfr11 => kernel_rfl
  case hrr11 => kernel_rfl
  case hQr11 => exact fun _ _ _ h => h
  case hyr11 => refine Or.inl ⟨by rfl, ?_⟩; intro W hSw; go_simp; try with_reducible rfl
  try simp only [Act.put, List.setIfInBounds_toArray, List.set_cons_zero, List.set_cons_succ]
  refine' wpAnyH_take (i := 12) (oi := _) (v := _) ?hir12 (by kernel_rfl) ?hfr12 ?hrr12 ?hQr12 ?hyr12 hBr1 ?restr12
  case hir12 => (simp only [List.getElem?_toArray]; rfl)
  case hfr12 => kernel_rfl
  case hrr12 => kernel_rfl
  case hQr12 => exact fun _ _ _ h => h
  case hyr12 => refine Or.inl ⟨by rfl, ?_⟩; intro W hSw; go_simp; try with_reducible rfl
  try simp only [Act.put, List.setIfInBounds_toArray, List.set_cons_zero, List.set_cons_succ]
  refine' wpAnyH_take (i := 13) (oi := _) (v := _) ?hir13 (by kernel_rfl) ?hfr13 ?hrr13 ?hQr13 ?hyr13 hBr1 ?restr13
  case hir13 => (simp only [List.getElem?_toArray]; rfl)
  case hfr13 => kernel_rfl
  case hrr13 => kernel_rfl
  case hQr13 => exact fun _ _ _ h => h
  case hyr13 => refine Or.inl ⟨by rfl, ?_⟩; intro W hSw; go_simp; try with_reducible rfl
  try simp only [Act.put, List.setIfInBounds_toArray, List.set_cons_zero, List.set_cons_succ]
  refine' wpAnyH_take (i := 14) (oi := _) (v := _) ?hir14 (by kernel_rfl) ?hfr14 ?hrr14 ?hQr14 ?hyr14 hBr1 ?restr14
  case hir14 => (simp only [List.getElem?_toArray]; rfl)
  case hfr14 => kernel_rfl
  case hrr14 => kernel_rfl
  case hQr14 => exact fun _ _ _ h => h
  case hyr14 => refine Or.inl ⟨by rfl, ?_⟩; intro W hSw; go_simp; try with_reducible rfl
  try simp only [Act.put, List.setIfInBounds_toArray, List.set_cons_zero, List.set_cons_succ]
  refine' wpAnyH_take (i := 15) (oi := _) (v := _) ?hir15 (by kernel_rfl) ?hfr15 ?hrr15 ?hQr15 ?hyr15 hBr1 ?restr15
  case hir15 => (simp only [List.getElem?_toArray]; rfl)
  case hfr15 => kernel_rfl
  case hrr15 => kernel_rfl
  case hQr15 => exact fun _ _ _ h => h
  case hyr15 => refine Or.inl ⟨by rfl, ?_⟩; intro W hSw; go_simp; try with_reducible rfl
  try simp only [Act.put, List.setIfInBounds_toArray, List.set_cons_zero, List.set_cons_succ]
  refine' wpAnyH_take (i := 16) (oi := _) (v := _) ?hir16 (by kernel_rfl) ?hfr16 ?hrr16 ?hQr16 ?hyr16 hBr1 ?restr16
  case hir16 => (simp only [List.getElem?_toArray]; rfl)
  case hfr16 => kernel_rfl
  case hrr16 => kernel_rfl
  case hQr16 => exact fun _ _ _ h => h
  case hyr16 => refine Or.inl ⟨by rfl, ?_⟩; intro W hSw; go_simp; try with_reducible rfl
  try simp only [Act.put, List.setIfInBounds_toArray, List.set_cons_zero, List.set_cons_succ]
  refine' wpAnyH_take (i := 17) (oi := _) (v := .string { data := #[98] }) ?hir17 (by kernel_rfl) ?hfr17 ?hrr17 ?hQr17 ?hyr17 hBr1 ?restr17
  case hir17 => (simp only [List.getElem?_toArray]; rfl)
  case hfr17 => kernel_rfl
  case hrr17 => kernel_rfl
  case hQr17 => exact fun _ _ _ h => h
  case hyr17 => refine Or.inl ⟨by rfl, ?_⟩; intro W hSw; have hcx := conv_str (HIX.out.below hSw) (by decide) d4; rw [str_b] at hcx; go_simp; try with_reducible rfl
  try simp only [Act.put, List.setIfInBounds_toArray, List.set_cons_zero, List.set_cons_succ]
  refine' wpAnyH_take (i := 18) (oi := _) (v := _) ?hir18 (by kernel_rfl) ?hfr18 ?hrr18 ?hQr18 ?hyr18 hBr1 ?restr18
  case hir18 => (simp only [List.getElem?_toArray]; rfl)
  case hfr18 => kernel_rfl
  case hrr18 => kernel_rfl
  case hQr18 => exact fun _ _ _ h => h
  case hyr18 => refine Or.inl ⟨by rfl, ?_⟩; intro W hSw; go_simp; try with_reducible rfl
  try simp only [Act.put, List.setIfInBounds_toArray, List.set_cons_zero, List.set_cons_succ]
  refine' wpAnyH_take (i := 19) (oi := _) (v := _) ?hir19 (by kernel_rfl) ?hfr19 ?hrr19 ?hQr19 ?hyr19 hBr1 ?restr19
  case hir19 => (simp only [List.getElem?_toArray]; rfl)
  case hfr19 => kernel_rfl
  case hrr19 => kernel_rfl
  case hQr19 => exact fun _ _ _ h => h
  case hyr19 => refine Or.inl ⟨by rfl, ?_⟩; intro W hSw; go_simp; try with_reducible rfl
  try simp only [Act.put, List.setIfInBounds_toArray, List.set_cons_zero, List.set_cons_succ]
  refine' wpAnyH_take (i := 20) (oi := _) (v := _) ?hir20 (by kernel_rfl) ?hfr20 ?hrr20 ?hQr20 ?hyr20 hBr1 ?restr20
  case hir20 => (simp only [List.getElem?_toArray]; rfl)
  case hfr20 => kernel_rfl
  case hrr20 => kernel_rfl
  case hQr20 => exact fun _ _ _ h => h
  case hyr20 => refine Or.inl ⟨by rfl, ?_⟩; intro W hSw; go_simp; try with_reducible rfl
  try simp only [Act.put, List.setIfInBounds_toArray, List.set_cons_zero, List.set_cons_succ]
  refine' wpAnyH_take (i := 21) (oi := _) (v := _) ?hir21 (by kernel_rfl) ?hfr21 ?hrr21 ?hQr21 ?hyr21 hBr1 ?restr21
  case hir21 => (simp only [List.getElem?_toArray]; rfl)
  case hfr21 => kernel_rfl
  case hrr21 => kernel_rfl
  case hQr21 => exact fun _ _ _ h => h
  case hyr21 => refine Or.inl ⟨by rfl, ?_⟩; intro W hSw; go_simp; try with_reducible rfl
  try simp only [Act.put, List.setIfInBounds_toArray, List.set_cons_zero, List.set_cons_succ]
  refine' wpAnyH_take (i := 22) (oi := _) (v := _) ?hir22 (by kernel_rfl) ?hfr22 ?hrr22 ?hQr22 ?hyr22 hBr1 ?restr22
  case hir22 => (simp only [List.getElem?_toArray]; rfl)
  case hfr22 => kernel_rfl
  case hrr22 => kernel_rfl
  case hQr22 => exact fun _ _ _ h => h
  case hyr22 => refine Or.inl ⟨by rfl, ?_⟩; intro W hSw; go_simp; try with_reducible rfl
  try simp only [Act.put, List.setIfInBounds_toArray, List.set_cons_zero, List.set_cons_succ]
  refine' wpAnyH_take (i := 23) (oi := _) (v := _) ?hir23 (by kernel_rfl) ?hfr23 ?hrr23 ?hQr23 ?hyr23 hBr1 ?restr23
  case hir23 => (simp only [List.getElem?_toArray]; rfl)
  case hfr23 => kernel_rfl
  case hrr23 => kernel_rfl
  case hQr23 => exact fun _ _ _ h => h
  case hyr23 => refine Or.inl ⟨by rfl, ?_⟩; intro W hSw; go_simp; try with_reducible rfl
  try simp only [Act.put, List.setIfInBounds_toArray, List.set_cons_zero, List.set_cons_succ]
  refine' wpAnyH_take (i := 24) (oi := _) (v := _) ?hir24 (by kernel_rfl) ?hfr24 ?hrr24 ?hQr24 ?hyr24 hBr1 ?restr24
  case hir24 => (simp only [List.getElem?_toArray]; rfl)
  case hfr24 => kernel_rfl
  case hrr24 => kernel_rfl
  case hQr24 => exact fun _ _ _ h => h
  case hyr24 => refine Or.inl ⟨by rfl, ?_⟩; intro W hSw; go_simp; try with_reducible rfl
  try simp only [Act.put, List.setIfInBounds_toArray, List.set_cons_zero, List.set_cons_succ]
  refine' wpAnyH_take (i := 25) (oi := _) (v := _) ?hir25 (by kernel_rfl) ?hfr25 ?hrr25 ?hQr25 ?hyr25 hBr1 ?restr25
  case hir25 => (simp only [List.getElem?_toArray]; rfl)
  case hfr25 => kernel_rfl
  case hrr25 => kernel_rfl
  case hQr25 => exact fun _ _ _ h => h
  case hyr25 => refine Or.inl ⟨by rfl, ?_⟩; intro W hSw; go_simp; try with_reducible rfl
  try simp only [Act.put, List.setIfInBounds_toArray, List.set_cons_zero, List.set_cons_succ]
  refine' wpAnyH_take (i := 26) (oi := _) (v := _) ?hir26 (by kernel_rfl) ?hfr26 ?hrr26 ?hQr26 ?hyr26 hBr1 ?restr26
  case hir26 => (simp only [List.getElem?_toArray]; rfl)
  case hfr26 => kernel_rfl
  case hrr26 => kernel_rfl
  case hQr26 => exact fun _ _ _ h => h
  case hyr26 => refine Or.inl ⟨by rfl, ?_⟩; intro W hSw; go_simp; try with_reducible rfl
  try simp only [Act.put, List.setIfInBounds_toArray, List.set_cons_zero, List.set_cons_succ]
  refine' wpAnyH_take (i := 27) (oi := _) (v := _) ?hir27 (by kernel_rfl) ?hfr27 ?hrr27 ?hQr27 ?hyr27 hBr1 ?restr27
  case hir27 => (simp only [List.getElem?_toArray]; rfl)
  case hfr27 => kernel_rfl
  case hrr27 => kernel_rfl
  case hQr27 => exact fun _ _ _ h => h
  case hyr27 => refine Or.inl ⟨by rfl, ?_⟩; intro W hSw; go_simp; try with_reducible rfl
  try simp only [Act.put, List.setIfInBounds_toArray, List.set_cons_zero, List.set_cons_succ]
  refine' wpAnyH_take (i := 28) (oi := _) (v := _) ?hir28 (by kernel_rfl) ?hfr28 ?hrr28 ?hQr28 ?hyr28 hBr1 ?restr28
  case hir28 => (simp only [List.getElem?_toArray]; rfl)
  case hfr28 => kernel_rfl
  case hrr28 => kernel_rfl
  case hQr28 => exact fun _ _ _ h => h
  case hyr28 => refine Or.inl ⟨by rfl, ?_⟩; intro W hSw; go_simp; try with_reducible rfl
  try simp only [Act.put, List.setIfInBounds_toArray, List.set_cons_zero, List.set_cons_succ]
  refine' wpAnyH_take (i := 29) (oi := _) (v := sv (z)) ?hir29 (by kernel_rfl) ?hfr29 ?hrr29 ?hQr29 ?hyr29 hBr1 ?restr29
  case hir29 => (simp only [List.getElem?_toArray]; rfl)
  case hfr29 => kernel_rfl
  case hrr29 => kernel_rfl
  case hQr29 => exact fun _ _ _ h => h
  case hyr29 => refine yields_sum ?_ (.tmp 8) rfl ⟨g7, 0, none⟩ rfl z hzl (fun W hSw => (K8.out W hSw)); rfl
  try simp only [Act.put, List.setIfInBounds_toArray, List.set_cons_zero, List.set_cons_succ]
  refine' wpAnyH_take (i := 30) (oi := _) (v := _) ?hir30 (by kernel_rfl) ?hfr30 ?hrr30 ?hQr30 ?hyr30 hBr1 ?restr30
  case hir30 => (simp only [List.getElem?_toArray]; rfl)
  case hfr30 => kernel_rfl
  case hrr30 => kernel_rfl
  case hQr30 => exact fun _ _ _ h => h
  case hyr30 => refine Or.inl ⟨by rfl, ?_⟩; intro W hSw; go_simp; try with_reducible rfl
  try simp only [Act.put, List.setIfInBounds_toArray, List.set_cons_zero, List.set_cons_succ]
  refine' wpAnyH_take (i := 31) (oi := _) (v := _) ?hir31 (by kernel_rfl) ?hfr31 ?hrr31 ?hQr31 ?hyr31 hBr1 ?restr31
  case hir31 => (simp only [List.getElem?_toArray]; rfl)
  case hfr31 => kernel_rfl
  case hrr31 => kernel_rfl
  case hQr31 => exact fun _ _ _ h => h
  case hyr31 => refine Or.inl ⟨by rfl, ?_⟩; intro W hSw; go_simp; try with_reducible rfl
  try simp only [Act.put, List.setIfInBounds_toArray, List.set_cons_zero, List.set_cons_succ]
  refine' wpAnyH_take (i := 32) (oi := _) (v := _) ?hir32 (by kernel_rfl) ?hfr32 ?hrr32 ?hQr32 ?hyr32 hBr1 ?restr32
  case hir32 => (simp only [List.getElem?_toArray]; rfl)
  case hfr32 => kernel_rfl
  case hrr32 => kernel_rfl
  case hQr32 => exact fun _ _ _ h => h
  case hyr32 => refine Or.inl ⟨by rfl, ?_⟩; intro W hSw; go_simp; try with_reducible rfl
  try simp only [Act.put, List.setIfInBounds_toArray, List.set_cons_zero, List.set_cons_succ]
  refine' wpAnyH_take (i := 33) (oi := _) (v := _) ?hir33 (by kernel_rfl) ?hfr33 ?hrr33 ?hQr33 ?hyr33 hBr1 ?restr33
  case hir33 => (simp only [List.getElem?_toArray]; rfl)
  case hfr33 => kernel_rfl
  case hrr33 => kernel_rfl
  case hQr33 => exact fun _ _ _ h => h
  case hyr33 => refine Or.inl ⟨by rfl, ?_⟩; intro W hSw; go_simp; try with_reducible rfl
  try simp only [Act.put, List.setIfInBounds_toArray, List.set_cons_zero, List.set_cons_succ]
  refine' wpAnyH_take (i := 34) (oi := _) (v := _) ?hir34 (by kernel_rfl) ?hfr34 ?hrr34 ?hQr34 ?hyr34 hBr1 ?restr34
  case hir34 => (simp only [List.getElem?_toArray]; rfl)
  case hfr34 => kernel_rfl
  case hrr34 => kernel_rfl
  case hQr34 => exact fun _ _ _ h => h
  case hyr34 => refine Or.inl ⟨by rfl, ?_⟩; intro W hSw; go_simp; try with_reducible rfl
  try simp only [Act.put, List.setIfInBounds_toArray, List.set_cons_zero, List.set_cons_succ]
  refine' wpAnyH_take (i := 35) (oi := _) (v := _) ?hir35 (by kernel_rfl) ?hfr35 ?hrr35 ?hQr35 ?hyr35 hBr1 ?restr35
  case hir35 => (simp only [List.getElem?_toArray]; rfl)
  case hfr35 => kernel_rfl
  case hrr35 => kernel_rfl
  case hQr35 => exact fun _ _ _ h => h
  case hyr35 => refine Or.inl ⟨by rfl, ?_⟩; intro W hSw; go_simp; try with_reducible rfl
  try simp only [Act.put, List.setIfInBounds_toArray, List.set_cons_zero, List.set_cons_succ]
  refine' wpAnyH_take (i := 36) (oi := _) (v := _) ?hir36 (by kernel_rfl) ?hfr36 ?hrr36 ?hQr36 ?hyr36 hBr1 ?restr36
  case hir36 => (simp only [List.getElem?_toArray]; rfl)
  case hfr36 => kernel_rfl
  case hrr36 => kernel_rfl
  case hQr36 => exact fun _ _ _ h => h
  case hyr36 => refine Or.inl ⟨by rfl, ?_⟩; intro W hSw; go_simp; try with_reducible rfl
  try simp only [Act.put, List.setIfInBounds_toArray, List.set_cons_zero, List.set_cons_succ]
  refine' wpAnyH_take (i := 37) (oi := _) (v := _) ?hir37 (by kernel_rfl) ?hfr37 ?hrr37 ?hQr37 ?hyr37 hBr1 ?restr37
  case hir37 => (simp only [List.getElem?_toArray]; rfl)
  case hfr37 => kernel_rfl
  case hrr37 => kernel_rfl
  case hQr37 => exact fun _ _ _ h => h
  case hyr37 => refine Or.inl ⟨by rfl, ?_⟩; intro W hSw; go_simp; try with_reducible rfl
  try simp only [Act.put, List.setIfInBounds_toArray, List.set_cons_zero, List.set_cons_succ]
  refine' wpAnyH_take (i := 38) (oi := _) (v := _) ?hir38 (by kernel_rfl) ?hfr38 ?hrr38 ?hQr38 ?hyr38 hBr1 ?restr38
  case hir38 => (simp only [List.getElem?_toArray]; rfl)
  case hfr38 => kernel_rfl
  case hrr38 => kernel_rfl
  case hQr38 => exact fun _ _ _ h => h
  case hyr38 => refine Or.inl ⟨by rfl, ?_⟩; intro W hSw; go_simp; try with_reducible rfl
  try simp only [Act.put, List.setIfInBounds_toArray, List.set_cons_zero, List.set_cons_succ]
  refine' wpAnyH_take (i := 39) (oi := _) (v := _) ?hir39 (by kernel_rfl) ?hfr39 ?hrr39 ?hQr39 ?hyr39 hBr1 ?restr39
  case hir39 => (simp only [List.getElem?_toArray]; rfl)
  case hfr39 => kernel_rfl
  case hrr39 => kernel_rfl
  case hQr39 => exact fun _ _ _ h => h
  case hyr39 => refine Or.inl ⟨by rfl, ?_⟩; intro W hSw; go_simp; try with_reducible rfl
  try simp only [Act.put, List.setIfInBounds_toArray, List.set_cons_zero, List.set_cons_succ]
  refine' wpAnyH_take (i := 40) (oi := _) (v := _) ?hir40 (by kernel_rfl) ?hfr40 ?hrr40 ?hQr40 ?hyr40 hBr1 ?restr40
  case hir40 => (simp only [List.getElem?_toArray]; rfl)
  case hfr40 => kernel_rfl
  case hrr40 => kernel_rfl
  case hQr40 => exact fun _ _ _ h => h
  case hyr40 => refine Or.inl ⟨by rfl, ?_⟩; intro W hSw; go_simp; try with_reducible rfl
  try simp only [Act.put, List.setIfInBounds_toArray, List.set_cons_zero, List.set_cons_succ]
  refine' wpAnyH_take (i := 41) (oi := _) (v := _) ?hir41 (by kernel_rfl) ?hfr41 ?hrr41 ?hQr41 ?hyr41 hBr1 ?restr41
  case hir41 => (simp only [List.getElem?_toArray]; rfl)
  case hfr41 => kernel_rfl
  case hrr41 => kernel_rfl
  case hQr41 => exact fun _ _ _ h => h
  case hyr41 => refine Or.inl ⟨by rfl, ?_⟩; intro W hSw; go_simp; try with_reducible rfl
  try simp only [Act.put, List.setIfInBounds_toArray, List.set_cons_zero, List.set_cons_succ]
  refine' wpAnyH_take (i := 42) (oi := _) (v := sv (a1)) ?hir42 (by kernel_rfl) ?hfr42 ?hrr42 ?hQr42 ?hyr42 hBr1 ?restr42
  case hir42 => (simp only [List.getElem?_toArray]; rfl)
  case hfr42 => kernel_rfl
  case hrr42 => kernel_rfl
  case hQr42 => exact fun _ _ _ h => h
  case hyr42 => refine yields_sum ?_ (.tmp 12) rfl ⟨g11, 0, none⟩ rfl a1 hal (fun W hSw => (K12.out W hSw)); rfl
  try simp only [Act.put, List.setIfInBounds_toArray, List.set_cons_zero, List.set_cons_succ]
  refine wpAnyH_ready (rs := [43]) (by kernel_rfl) (by simp) ?_
  refine' AllReadyH.cons (o := _) ?hir43 (fun K hK => ?_) AllReadyH.nil
  case hir43 => (simp only [List.getElem?_toArray]; rfl)
  go_simp
  have hLa := Below.alloc hBr1 (Below.size hBr1) (.cells #[.int .u8 97] 5)
  refine hK.out _ _ hLa (fun _ => ?_)
  clear hK K
  try simp only [Act.put, List.setIfInBounds_toArray, List.set_cons_zero, List.set_cons_succ]
  refine wpAnyH_ready (rs := [44]) (by kernel_rfl) (by simp) ?_
  refine' AllReadyH.cons (o := _) ?hir44 (fun K hK => ?_) AllReadyH.nil
  case hir44 => (simp only [List.getElem?_toArray]; rfl)
  have kl := hlit_one 97 Wr2
  go_simp
  have hLb := Below.alloc hBr1 (Below.size hBr1) (.cells #[.int .u8 ((97 : Nat) : Int)] 5 (1, 2))
  refine hK.out _ _ hLb (fun _ => ?_)
  clear hK K kl
  try simp only [Act.put, List.setIfInBounds_toArray, List.set_cons_zero, List.set_cons_succ]
  refine wpAnyH_ready (rs := [45]) (by kernel_rfl) (by simp) ?_
  refine' AllReadyH.cons (o := _) ?hir45 (fun K hK => ?_) AllReadyH.nil
  case hir45 => (simp only [List.getElem?_toArray]; rfl)
  go_simp
  go_at_call 20
  refine (CL.out _ hBr1).mono ?_
  rintro e WL ⟨rfl, hWL⟩
  refine hK.out _ _ hWL (fun _ => ?_)
  clear hK K hLa hLb
  try simp only [Act.put, List.setIfInBounds_toArray, List.set_cons_zero, List.set_cons_succ]
  refine' wpAnyH_take (i := 46) (oi := _) (v := _) ?hir46 (by kernel_rfl) ?hfr46 ?hrr46 ?hQr46 ?hyr46 hWL ?restr46
  case hir46 => (simp only [List.getElem?_toArray]; rfl)
  case hfr46 => kernel_rfl
  case hrr46 => kernel_rfl
  case hQr46 => exact fun _ _ _ h => h
  case hyr46 => refine Or.inl ⟨by rfl, ?_⟩; intro W hSw; go_simp; try with_reducible rfl
  try simp only [Act.put, List.setIfInBounds_toArray, List.set_cons_zero, List.set_cons_succ]
  refine' wpAnyH_take (i := 47) (oi := _) (v := _) ?hir47 (by kernel_rfl) ?hfr47 ?hrr47 ?hQr47 ?hyr47 hWL ?restr47
  case hir47 => (simp only [List.getElem?_toArray]; rfl)
  case hfr47 => kernel_rfl
  case hrr47 => kernel_rfl
  case hQr47 => exact fun _ _ _ h => h
  case hyr47 => refine Or.inl ⟨by rfl, ?_⟩; intro W hSw; go_simp; try with_reducible rfl
  try simp only [Act.put, List.setIfInBounds_toArray, List.set_cons_zero, List.set_cons_succ]
  refine' wpAnyH_take (i := 48) (oi := _) (v := _) ?hir48 (by kernel_rfl) ?hfr48 ?hrr48 ?hQr48 ?hyr48 hWL ?restr48
  case hir48 => (simp only [List.getElem?_toArray]; rfl)
  case hfr48 => kernel_rfl
  case hrr48 => kernel_rfl
  case hQr48 => exact fun _ _ _ h => h
  case hyr48 => refine Or.inl ⟨by rfl, ?_⟩; intro W hSw; go_simp; try with_reducible rfl
  try simp only [Act.put, List.setIfInBounds_toArray, List.set_cons_zero, List.set_cons_succ]
  refine' wpAnyH_take (i := 49) (oi := _) (v := _) ?hir49 (by kernel_rfl) ?hfr49 ?hrr49 ?hQr49 ?hyr49 hWL ?restr49
  case hir49 => (simp only [List.getElem?_toArray]; rfl)
  case hfr49 => kernel_rfl
  case hrr49 => kernel_rfl
  case hQr49 => exact fun _ _ _ h => h
  case hyr49 => refine Or.inl ⟨by rfl, ?_⟩; intro W hSw; go_simp; try with_reducible rfl
  try simp only [Act.put, List.setIfInBounds_toArray, List.set_cons_zero, List.set_cons_succ]
  refine' wpAnyH_take (i := 50) (oi := _) (v := _) ?hir50 (by kernel_rfl) ?hfr50 ?hrr50 ?hQr50 ?hyr50 hWL ?restr50
  case hir50 => (simp only [List.getElem?_toArray]; rfl)
  case hfr50 => kernel_rfl
  case hrr50 => kernel_rfl
  case hQr50 => exact fun _ _ _ h => h
  case hyr50 => refine Or.inl ⟨by rfl, ?_⟩; intro W hSw; go_simp; try with_reducible rfl
  try simp only [Act.put, List.setIfInBounds_toArray, List.set_cons_zero, List.set_cons_succ]
  refine' wpAnyH_take (i := 51) (oi := _) (v := _) ?hir51 (by kernel_rfl) ?hfr51 ?hrr51 ?hQr51 ?hyr51 hWL ?restr51
  case hir51 => (simp only [List.getElem?_toArray]; rfl)
  case hfr51 => kernel_rfl
  case hrr51 => kernel_rfl
  case hQr51 => exact fun _ _ _ h => h
  case hyr51 => refine Or.inl ⟨by rfl, ?_⟩; intro W hSw; go_simp; try with_reducible rfl
  try simp only [Act.put, List.setIfInBounds_toArray, List.set_cons_zero, List.set_cons_succ]
  refine' wpAnyH_take (i := 52) (oi := _) (v := _) ?hir52 (by kernel_rfl) ?hfr52 ?hrr52 ?hQr52 ?hyr52 hWL ?restr52
  case hir52 => (simp only [List.getElem?_toArray]; rfl)
  case hfr52 => kernel_rfl
  case hrr52 => kernel_rfl
  case hQr52 => exact fun _ _ _ h => h
  case hyr52 => refine Or.inl ⟨by rfl, ?_⟩; intro W hSw; go_simp; try with_reducible rfl
  try simp only [Act.put, List.setIfInBounds_toArray, List.set_cons_zero, List.set_cons_succ]
  refine' wpAnyH_take (i := 53) (oi := _) (v := _) ?hir53 (by kernel_rfl) ?hfr53 ?hrr53 ?hQr53 ?hyr53 hWL ?restr53
  case hir53 => (simp only [List.getElem?_toArray]; rfl)
  case hfr53 => kernel_rfl
  case hrr53 => kernel_rfl
  case hQr53 => exact fun _ _ _ h => h
  case hyr53 => refine Or.inl ⟨by rfl, ?_⟩; intro W hSw; go_simp; try with_reducible rfl
  try simp only [Act.put, List.setIfInBounds_toArray, List.set_cons_zero, List.set_cons_succ]
  refine' wpAnyH_take (i := 54) (oi := _) (v := sv (b1)) ?hir54 (by kernel_rfl) ?hfr54 ?hrr54 ?hQr54 ?hyr54 hWL ?restr54
  case hir54 => (simp only [List.getElem?_toArray]; rfl)
  case hfr54 => kernel_rfl
  case hrr54 => kernel_rfl
  case hQr54 => exact fun _ _ _ h => h
  case hyr54 => refine yields_sum ?_ (.tmp 20) rfl ⟨g16, 0, none⟩ rfl b1 hbl (fun W hSw => (K20.out W hSw)); rfl
  try simp only [Act.put, List.setIfInBounds_toArray, List.set_cons_zero, List.set_cons_succ]
  refine wpAnyH_ready (rs := [55]) (by kernel_rfl) (by simp) ?_
  refine' AllReadyH.cons (o := _) ?hir55 (fun K hK => ?_) AllReadyH.nil
  case hir55 => (simp only [List.getElem?_toArray]; rfl)
  rw [if_pos (by rfl)]
  refine wp_sums _ [b1] 1 rfl rfl (by simp <;> rfl) (by intro s hs; simp at hs; rw [hs]; exact hbl) (by omega) (by omega) ?_
  rw [show [b1].flatten = b1 by simp]
  have hBr3 := Below.alloc hWL (Below.size hWL) (.cells (bvs b1).toArray 34)
  have iL55 : InS (WL.alloc (.cells (bvs b1).toArray 34)) (some ⟨WL.heap.size, 0, none⟩) 1 b1 := ⟨hbl, (In.new' WL b1 34).rd⟩
  refine hK.out _ _ hBr3 (fun _ => ?_)
  clear hK K
  try simp only [Act.put, List.setIfInBounds_toArray, List.set_cons_zero, List.set_cons_succ]
  have CQ56 := Lib.hid (sameSums_yes A12 (some ⟨WL.heap.size, 0, none⟩) 1 d12 1 b1 _ (P14.out.below hBr3) iL55 (by omega))
  refine wpAnyH_ready (rs := [56]) (by kernel_rfl) (by simp) ?_
  refine' AllReadyH.cons (o := _) ?hir56 (fun K hK => ?_) AllReadyH.nil
  case hir56 => (simp only [List.getElem?_toArray]; rfl)
  go_simp
  go_at_call 18
  refine CQ56.out.mono ?_
  rintro e WS56 ⟨rfl, qS, hqS⟩
  have hBr4 : Below w16.heap.size w16 WS56 := by rw [hqS]; exact ⟨hBr3.os, hBr3.tape, hBr3.output, hBr3.size, hBr3.block⟩
  clear hqS
  refine hK.out _ _ hBr4 (fun _ => ?_)
  clear hK K iL55 CQ56
  try simp only [Act.put, List.setIfInBounds_toArray, List.set_cons_zero, List.set_cons_succ]
  refine' wpAnyH_take (i := 57) (oi := _) (v := _) ?hir57 (by kernel_rfl) ?hfr57 ?hrr57 ?hQr57 ?hyr57 hBr4 ?restr57
  case hir57 => (simp only [List.getElem?_toArray]; rfl)
  case hfr57 => kernel_rfl
  case hrr57 => kernel_rfl
  case hQr57 => exact fun _ _ _ h => h
  case hyr57 => refine Or.inl ⟨by rfl, ?_⟩; intro W hSw; go_simp; try with_reducible rfl
  try simp only [Act.put, List.setIfInBounds_toArray, List.set_cons_zero, List.set_cons_succ]
  refine' wpAnyH_take (i := 58) (oi := _) (v := _) ?hir58 (by kernel_rfl) ?hfr58 ?hrr58 ?hQr58 ?hyr58 hBr4 ?restr58
  case hir58 => (simp only [List.getElem?_toArray]; rfl)
  case hfr58 => kernel_rfl
  case hrr58 => kernel_rfl
  case hQr58 => exact fun _ _ _ h => h
  case hyr58 => refine Or.inl ⟨by rfl, ?_⟩; intro W hSw; go_simp; try with_reducible rfl
  try simp only [Act.put, List.setIfInBounds_toArray, List.set_cons_zero, List.set_cons_succ]
  refine' wpAnyH_take (i := 59) (oi := _) (v := _) ?hir59 (by kernel_rfl) ?hfr59 ?hrr59 ?hQr59 ?hyr59 hBr4 ?restr59
  case hir59 => (simp only [List.getElem?_toArray]; rfl)
  case hfr59 => kernel_rfl
  case hrr59 => kernel_rfl
  case hQr59 => exact fun _ _ _ h => h
  case hyr59 => refine Or.inl ⟨by rfl, ?_⟩; intro W hSw; go_simp; try with_reducible rfl
  try simp only [Act.put, List.setIfInBounds_toArray, List.set_cons_zero, List.set_cons_succ]
  refine' wpAnyH_take (i := 60) (oi := _) (v := _) ?hir60 (by kernel_rfl) ?hfr60 ?hrr60 ?hQr60 ?hyr60 hBr4 ?restr60
  case hir60 => (simp only [List.getElem?_toArray]; rfl)
  case hfr60 => kernel_rfl
  case hrr60 => kernel_rfl
  case hQr60 => exact fun _ _ _ h => h
  case hyr60 => refine Or.inl ⟨by rfl, ?_⟩; intro W hSw; go_simp; try with_reducible rfl
  try simp only [Act.put, List.setIfInBounds_toArray, List.set_cons_zero, List.set_cons_succ]
  refine' wpAnyH_take (i := 61) (oi := _) (v := _) ?hir61 (by kernel_rfl) ?hfr61 ?hrr61 ?hQr61 ?hyr61 hBr4 ?restr61
  case hir61 => (simp only [List.getElem?_toArray]; rfl)
  case hfr61 => kernel_rfl
  case hrr61 => kernel_rfl
  case hQr61 => exact fun _ _ _ h => h
  case hyr61 => refine Or.inl ⟨by rfl, ?_⟩; intro W hSw; go_simp; try with_reducible rfl
  try simp only [Act.put, List.setIfInBounds_toArray, List.set_cons_zero, List.set_cons_succ]
  refine' wpAnyH_take (i := 62) (oi := _) (v := _) ?hir62 (by kernel_rfl) ?hfr62 ?hrr62 ?hQr62 ?hyr62 hBr4 ?restr62
  case hir62 => (simp only [List.getElem?_toArray]; rfl)
  case hfr62 => kernel_rfl
  case hrr62 => kernel_rfl
  case hQr62 => exact fun _ _ _ h => h
  case hyr62 => refine Or.inl ⟨by rfl, ?_⟩; intro W hSw; go_simp; try with_reducible rfl
  try simp only [Act.put, List.setIfInBounds_toArray, List.set_cons_zero, List.set_cons_succ]
  refine' wpAnyH_take (i := 63) (oi := _) (v := _) ?hir63 (by kernel_rfl) ?hfr63 ?hrr63 ?hQr63 ?hyr63 hBr4 ?restr63
  case hir63 => (simp only [List.getElem?_toArray]; rfl)
  case hfr63 => kernel_rfl
  case hrr63 => kernel_rfl
  case hQr63 => exact fun _ _ _ h => h
  case hyr63 => refine Or.inl ⟨by rfl, ?_⟩; intro W hSw; go_simp; try with_reducible rfl
  try simp only [Act.put, List.setIfInBounds_toArray, List.set_cons_zero, List.set_cons_succ]
  refine' wpAnyH_take (i := 64) (oi := _) (v := sv (b1)) ?hir64 (by kernel_rfl) ?hfr64 ?hrr64 ?hQr64 ?hyr64 hBr4 ?restr64
  case hir64 => (simp only [List.getElem?_toArray]; rfl)
  case hfr64 => kernel_rfl
  case hrr64 => kernel_rfl
  case hQr64 => exact fun _ _ _ h => h
  case hyr64 => refine yields_sum ?_ (.tmp 20) rfl ⟨g16, 0, none⟩ rfl b1 hbl (fun W hSw => (K20.out W hSw)); rfl
  try simp only [Act.put, List.setIfInBounds_toArray, List.set_cons_zero, List.set_cons_succ]
  refine wpAnyH_ready (rs := [65]) (by kernel_rfl) (by simp) ?_
  refine' AllReadyH.cons (o := _) ?hir65 (fun K hK => ?_) AllReadyH.nil
  case hir65 => (simp only [List.getElem?_toArray]; rfl)
  rw [if_pos (by rfl)]
  refine wp_sums _ [b1] 1 rfl rfl (by simp <;> rfl) (by intro s hs; simp at hs; rw [hs]; exact hbl) (by omega) (by omega) ?_
  rw [show [b1].flatten = b1 by simp]
  have hBr5 := Below.alloc hBr4 (Below.size hBr4) (.cells (bvs b1).toArray 34)
  have iL65 : InS (WS56.alloc (.cells (bvs b1).toArray 34)) (some ⟨WS56.heap.size, 0, none⟩) 1 b1 := ⟨hbl, (In.new' WS56 b1 34).rd⟩
  refine hK.out _ _ hBr5 (fun _ => ?_)
  clear hK K
  try simp only [Act.put, List.setIfInBounds_toArray, List.set_cons_zero, List.set_cons_succ]
  have CQ66 := Lib.hid (sameSums_yes A13 (some ⟨WS56.heap.size, 0, none⟩) 1 d13 1 b1 _ (Q16.out.below hBr5) iL65 (by omega))
  refine wpAnyH_ready (rs := [66]) (by kernel_rfl) (by simp) ?_
  refine' AllReadyH.cons (o := _) ?hir66 (fun K hK => ?_) AllReadyH.nil
  case hir66 => (simp only [List.getElem?_toArray]; rfl)
  go_simp
  go_at_call 18
  refine CQ66.out.mono ?_
  rintro e WS66 ⟨rfl, qS, hqS⟩
  have hBr6 : Below w16.heap.size w16 WS66 := by rw [hqS]; exact ⟨hBr5.os, hBr5.tape, hBr5.output, hBr5.size, hBr5.block⟩
  clear hqS
  refine hK.out _ _ hBr6 (fun _ => ?_)
  clear hK K iL65 CQ66
  try simp only [Act.put, List.setIfInBounds_toArray, List.set_cons_zero, List.set_cons_succ]
  refine' wpAnyH_take (i := 67) (oi := _) (v := _) ?hir67 (by kernel_rfl) ?hfr67 ?hrr67 ?hQr67 ?hyr67 hBr6 ?restr67
  case hir67 => (simp only [List.getElem?_toArray]; rfl)
  case hfr67 => kernel_rfl
  case hrr67 => kernel_rfl
  case hQr67 => exact fun _ _ _ h => h
  case hyr67 => refine Or.inl ⟨by rfl, ?_⟩; intro W hSw; go_simp; try with_reducible rfl
  try simp only [Act.put, List.setIfInBounds_toArray, List.set_cons_zero, List.set_cons_succ]
  refine' wpAnyH_take (i := 68) (oi := _) (v := _) ?hir68 (by kernel_rfl) ?hfr68 ?hrr68 ?hQr68 ?hyr68 hBr6 ?restr68
  case hir68 => (simp only [List.getElem?_toArray]; rfl)
  case hfr68 => kernel_rfl
  case hrr68 => kernel_rfl
  case hQr68 => exact fun _ _ _ h => h
  case hyr68 => refine Or.inl ⟨by rfl, ?_⟩; intro W hSw; go_simp; try with_reducible rfl
  try simp only [Act.put, List.setIfInBounds_toArray, List.set_cons_zero, List.set_cons_succ]
  refine' wpAnyH_take (i := 69) (oi := _) (v := _) ?hir69 (by kernel_rfl) ?hfr69 ?hrr69 ?hQr69 ?hyr69 hBr6 ?restr69
  case hir69 => (simp only [List.getElem?_toArray]; rfl)
  case hfr69 => kernel_rfl
  case hrr69 => kernel_rfl
  case hQr69 => exact fun _ _ _ h => h
  case hyr69 => refine Or.inl ⟨by rfl, ?_⟩; intro W hSw; go_simp; try with_reducible rfl
  try simp only [Act.put, List.setIfInBounds_toArray, List.set_cons_zero, List.set_cons_succ]
  refine' wpAnyH_take (i := 70) (oi := _) (v := _) ?hir70 (by kernel_rfl) ?hfr70 ?hrr70 ?hQr70 ?hyr70 hBr6 ?restr70
  case hir70 => (simp only [List.getElem?_toArray]; rfl)
  case hfr70 => kernel_rfl
  case hrr70 => kernel_rfl
  case hQr70 => exact fun _ _ _ h => h
  case hyr70 => refine Or.inl ⟨by rfl, ?_⟩; intro W hSw; go_simp; try with_reducible rfl
  try simp only [Act.put, List.setIfInBounds_toArray, List.set_cons_zero, List.set_cons_succ]
  refine' wpAnyH_take (i := 71) (oi := _) (v := _) ?hir71 (by kernel_rfl) ?hfr71 ?hrr71 ?hQr71 ?hyr71 hBr6 ?restr71
  case hir71 => (simp only [List.getElem?_toArray]; rfl)
  case hfr71 => kernel_rfl
  case hrr71 => kernel_rfl
  case hQr71 => exact fun _ _ _ h => h
  case hyr71 => refine Or.inl ⟨by rfl, ?_⟩; intro W hSw; go_simp; try with_reducible rfl
  try simp only [Act.put, List.setIfInBounds_toArray, List.set_cons_zero, List.set_cons_succ]
  refine' wpAnyH_take (i := 72) (oi := _) (v := _) ?hir72 (by kernel_rfl) ?hfr72 ?hrr72 ?hQr72 ?hyr72 hBr6 ?restr72
  case hir72 => (simp only [List.getElem?_toArray]; rfl)
  case hfr72 => kernel_rfl
  case hrr72 => kernel_rfl
  case hQr72 => exact fun _ _ _ h => h
  case hyr72 => refine Or.inl ⟨by rfl, ?_⟩; intro W hSw; go_simp; try with_reducible rfl
  try simp only [Act.put, List.setIfInBounds_toArray, List.set_cons_zero]
  refine wpAnyH_done (by kernel_rfl) ?_ _
  go_wp2_with fail
  go_ret
  exact ⟨rfl, BL.out _ hBr6⟩

end Go.Proofs.YtllohbgejjbagaaDoor

/-
  What the laws of layer 12 share.
-/
namespace Go.Proofs.YtllohbgejjbagaaDoor
open Go.RowKit Go.Deep

theorem alive_on {w W : World} (hk : Knows w) (hs : Starts w) (hW : Below w.heap.size w W) : Calls Tryd.prog 16 #[] W fun e w' => e = .returned (.bool true) ∧ Below w.heap.size w w' :=
  (halive_any W (hk.below hW) (hs.below hW)).mono fun _ _ ⟨he, hb⟩ => ⟨he, below_on hW (Nat.le_refl _) hb⟩
theorem markV_in {l : List (List Nat)} {n : Nat} (h : n ≤ l.length) : markV l n = markL (l.take n) := by unfold markV; rw [if_pos h]
theorem hasE_in {l : List (List Nat)} {n : Nat} (h : n ≤ l.length) : hasE l n = 0 := by unfold hasE; rw [if_pos h]
theorem pathE_in {l : List (List Nat)} {a n : Nat} (h : n ≤ l.length) (ha : a < n) : pathE l a n = 0 := by unfold pathE; rw [if_pos (show pathOk l a n from ⟨h, ha⟩)]
theorem linkE_in {l : List (List Nat)} {a n : Nat} (h : n ≤ l.length) (h1 : 1 ≤ a) (ha : a ≤ n) : linkE l a n = 0 := by unfold linkE; rw [if_pos (show linkOk l a n from ⟨h, h1, ha⟩)]
theorem pathN_in {l : List (List Nat)} {a n : Nat} (h : n ≤ l.length) (ha : a < n) : pathN l a n = dep a n := by unfold pathN; rw [if_pos (show pathOk l a n from ⟨h, ha⟩)]
theorem linkN_in {l : List (List Nat)} {a n : Nat} (h : n ≤ l.length) (h1 : 1 ≤ a) (ha : a ≤ n) : linkN l a n = ldep a n true := by unfold linkN; rw [if_pos (show linkOk l a n from ⟨h, h1, ha⟩)]
theorem pathS_in {l : List (List Nat)} {a n : Nat} (h : n ≤ l.length) (ha : a < n) : pathS l a n = (pathL (lf l) 0 n a).flatten := by unfold pathS; rw [if_pos (show pathOk l a n from ⟨h, ha⟩)]
theorem linkS_in {l : List (List Nat)} {a n : Nat} (h : n ≤ l.length) (h1 : 1 ≤ a) (ha : a ≤ n) : linkS l a n = (linkL (lf l) 0 n a true).flatten := by unfold linkS; rw [if_pos (show linkOk l a n from ⟨h, h1, ha⟩)]
theorem rootV_in {l : List (List Nat)} {n : Nat} (h : n ≤ l.length) : rootV l n = rt (lf l) 0 n := by unfold rootV; rw [if_pos h]

/-- What is told of the first ones hangs on these alone. -/
theorem mark_begin {l r : List (List Nat)} {n : Nat} (h : n ≤ l.length) : markV (l ++ r) n = markV l n := by
  rw [markV_in h, markV_in (by rw [List.length_append]; omega), List.take_append_of_le_length h]
theorem rootV_begin {l r : List (List Nat)} {n : Nat} (h : n ≤ l.length) : rootV (l ++ r) n = rootV l n := by
  rw [rootV_in h, rootV_in (by rw [List.length_append]; omega), root_begin l r h]
theorem pathS_begin {l r : List (List Nat)} {a n : Nat} (h : n ≤ l.length) (ha : a < n) : pathS (l ++ r) a n = pathS l a n := by
  rw [pathS_in h ha, pathS_in (by rw [List.length_append]; omega) ha, path_begin l r h]
theorem linkS_begin {l r : List (List Nat)} {a n : Nat} (h : n ≤ l.length) (h1 : 1 ≤ a) (ha : a ≤ n) : linkS (l ++ r) a n = linkS l a n := by
  rw [linkS_in h h1 ha, linkS_in (by rw [List.length_append]; omega) h1 ha, link_begin l r h]

theorem rows_cap {H : Type} {enc : TypeId × Value → H} {w : World} {base : Nat} {held : Bool} {fuel n c : Nat} {A : Option Addr} {x : DataW H × List MemPlace} (h : DataW.trod enc Tryd.prog w base (fun _ => true) held fuel 43 [.slice A n c] = some x) : n ≤ c := by
  rcases open_int_rows Tryd.underlying43 Tryd.underlying22 Tryd.underlying5 (by kernel_rfl) (by kernel_rfl) h with ⟨e, _⟩ | ⟨a, len, cap, B, L, C, Z, e, _, hl, _⟩
  · simp at e; omega
  · simp at e; omega
theorem CameRows.take {w : World} {A : Option Addr} {n k : Nat} {rows : List (List Nat)} (h : CameRows w A n rows) (hk : k ≤ n) : CameRows w A k (rows.take k) :=
  ⟨by rw [List.length_take, h.len]; omega, fun r xs hx => by
    rw [List.getElem?_take] at hx
    split at hx
    · exact h.row r xs hx
    · cases hx⟩
theorem run_take_rows {A : Option Addr} {n c k : Nat} (hk : k ≤ n) (hc : n ≤ c) (hn : A = none → c = 0) (W : World) :
    (Instr.slice 43 (.slice A n c) none (some (.int .i64 (k : Int))) none).run Tryd.prog W = .ok (.slice A k c) W := by
  obtain ⟨i0, hi, hz0, hz1, hz2⟩ := info_parts infoSlc
  have he : Tryd.prog.elem 43 = 22 := by kernel_rfl
  rw [run_slice_h W 43 A n c (by rw [he]; exact Tryd.underlying43) .i64 (k : Int) (by omega) (by omega), he]
  cases A with
  | none =>
    obtain rfl := hn rfl
    obtain rfl : k = 0 := by omega
    simp [sizeOf, typeInfo, hi, hz1, sliced]
  | some ad => simp [sizeOf, typeInfo, hi, hz1, sliced, add_zero']

end Go.Proofs.YtllohbgejjbagaaDoor

/-
  A variable of one cell, in a block of its own.
-/
namespace Go.Proofs.YtllohbgejjbagaaDoor
open Go.RowKit

/-- Block g is a variable of one cell. -/
def VarAt (w : World) (g : Nat) (T : TypeId) (v : Value) : Prop := w.heap[g]? = some (.cells #[v] T (0, 0))
section
variable {w w' : World} {g : Nat} {T : TypeId} {v : Value}
theorem VarAt.cell (h : VarAt w g T v) : w.cell? ⟨g, 0, none⟩ = some v := by rw [cell_of_row _ g 0 _ T (0, 0) h]; rfl
theorem VarAt.free (h : VarAt w g T v) : w.frozen? ⟨g, 0, none⟩ = false := frozen_of_row w g 0 _ T h
theorem VarAt.below (h : VarAt w g T v) (hb : Below w.heap.size w w') : VarAt w' g T v := (hb.block g (Array.getElem?_eq_some_iff.1 h).1).trans h
theorem VarAt.lt (h : VarAt w g T v) : g < w.heap.size := (Array.getElem?_eq_some_iff.1 h).1
theorem VarAt.new (w : World) (T : TypeId) (v : Value) : VarAt (w.alloc (.cells #[v] T)) w.heap.size T v := World.alloc_heap_new w _
theorem VarAt.set (h : VarAt w g T v) (u : Value) : VarAt (w.setCell ⟨g, 0, none⟩ u) g T u := by
  unfold VarAt
  rw [heap_setCell_same w g 0 _ T _ h]
  rfl
theorem VarAt.setRow_other (h : VarAt w g T v) (k : Nat) (hne : g ≠ k) (cs : Array Value) : VarAt (w.setRow k cs) g T v := by
  unfold VarAt
  rw [Go.setRow_other _ _ _ _ hne]
  exact h
end

theorem VarAt.but {S : Nat → Prop} {w w' : World} {g : Nat} {T : TypeId} {v : Value} (h : VarAt w g T v) (hb : But S w w') (hS : ¬ S g) : VarAt w' g T v := (hb.block g h.lt hS).trans h

end Go.Proofs.YtllohbgejjbagaaDoor

/-
  paths.end's closures: the one that takes the next sum of a path out of a variable, and the one that is deferred.
-/
namespace Go.Proofs.YtllohbgejjbagaaDoor
open Go.RowKit

/-- The path stands in variable pb, from number j on; everything else is as it was when the call began (B). -/
structure PIn (B w : World) (pb n j : Nat) (A : Option Addr) (c : Nat) (ys : List Nat) : Prop where
  var : VarAt w pb 37 (.slice A (n - j) c)
  in_ : InS B A (n - j) (ys.drop (32 * j))
  cap : n - j ≤ c
  le : j ≤ n
  below : Below B.heap.size B w
  pos : B.heap.size ≤ pb
theorem PIn.below_ {B w w' : World} {pb n j c : Nat} {A : Option Addr} {ys : List Nat} (h : PIn B w pb n j A c ys) (hb : Below w.heap.size w w') : PIn B w' pb n j A c ys :=
  ⟨h.var.below hb, h.in_, h.cap, h.le, below_on h.below (Nat.le_refl _) hb, h.pos⟩
theorem PIn.setRow {B w : World} {pb n j c : Nat} {A : Option Addr} {ys : List Nat} (h : PIn B w pb n j A c ys) {k : Nat} (hk : B.heap.size ≤ k) (hne : pb ≠ k) (cs : Array Value) : PIn B (w.setRow k cs) pb n j A c ys :=
  ⟨h.var.setRow_other k hne cs, h.in_, h.cap, h.le, below_setRow h.below hk cs, h.pos⟩

/-- What the closure panics with. -/
def fell : List PanicEntry := [{ v := .iface 9 (.string { data := #[97, 32, 112, 97, 116, 104, 32, 111, 102, 32, 116, 111, 111, 32, 102, 101, 119, 32, 115, 117, 109, 115] }), recovered := false }]

section
variable {B w : World} {pb n j c : Nat} {A : Option Addr} {ys : List Nat}

set_option maxRecDepth 100000 in
set_option maxHeartbeats 2000000 in
theorem next_none (h : PIn B w pb n j A c ys) (hj : j = n) :
    Calls Tryd.prog 57 #[.pointer (some ⟨pb, 0, none⟩)] w fun e w' => e = .panicked fell ∧ Below w.heap.size w w' := by
  subst hj
  have hc := h.var.cell
  rw [Nat.sub_self] at hc
  have e0 : (bvs zero32).toArray = #[.int .u8 0, .int .u8 0, .int .u8 0, .int .u8 0, .int .u8 0, .int .u8 0, .int .u8 0, .int .u8 0, .int .u8 0, .int .u8 0, .int .u8 0, .int .u8 0, .int .u8 0, .int .u8 0, .int .u8 0, .int .u8 0, .int .u8 0, .int .u8 0, .int .u8 0, .int .u8 0, .int .u8 0, .int .u8 0, .int .u8 0, .int .u8 0, .int .u8 0, .int .u8 0, .int .u8 0, .int .u8 0, .int .u8 0, .int .u8 0, .int .u8 0, .int .u8 0] := rfl
  have b1 := below_alloc w (.cells (bvs zero32).toArray 34)
  rw [e0] at b1
  clear e0
  have hc1 := (b1.cell h.var.lt).trans hc
  have HB := Lib.hid b1
  clear b1 h
  go_enter Tryd.func57, Tryd.ntmps57
  go_upto_region 1 with fail
  obtain ⟨w1, hw1⟩ : ∃ w1, w1 = w.alloc (.cells #[.int .u8 0, .int .u8 0, .int .u8 0, .int .u8 0, .int .u8 0, .int .u8 0, .int .u8 0, .int .u8 0, .int .u8 0, .int .u8 0, .int .u8 0, .int .u8 0, .int .u8 0, .int .u8 0, .int .u8 0, .int .u8 0, .int .u8 0, .int .u8 0, .int .u8 0, .int .u8 0, .int .u8 0, .int .u8 0, .int .u8 0, .int .u8 0, .int .u8 0, .int .u8 0, .int .u8 0, .int .u8 0, .int .u8 0, .int .u8 0, .int .u8 0, .int .u8 0] 34) := ⟨_, rfl⟩
  rw [← hw1] at HB hc1 ⊢
  clear hw1
  go_wp2_with fail
  exact ⟨rfl, rfl, HB.out⟩

set_option maxRecDepth 100000 in
set_option maxHeartbeats 2000000 in
theorem next_some (h : PIn B w pb n j A c ys) (hj : j < n) (hn : n ≤ 1000000) :
    Calls Tryd.prog 57 #[.pointer (some ⟨pb, 0, none⟩)] w fun e w' => e = .returned (sv (nth ys j)) ∧ (∃ A' c', PIn B w' pb n (j + 1) A' c' ys) ∧ But (· = pb) w w' := by
  obtain ⟨p, hp⟩ : ∃ p, n - j = p := ⟨_, rfl⟩
  have hp0 : 0 < p := by omega
  have hin := h.in_
  rw [hp] at hin
  obtain ⟨ad, hA, hl, hat⟩ := hin.at_ hp0
  subst hA
  rw [Nat.zero_mul, add_zero', nth_drop, Nat.add_zero] at hat
  rw [nth_drop, Nat.add_zero] at hl
  obtain ⟨s, hs⟩ : ∃ s, nth ys j = s := ⟨_, rfl⟩
  rw [hs] at hat hl ⊢
  have hcap := h.cap
  rw [hp] at hcap
  obtain ⟨A', hcut, hA'⟩ := cut_nameS (A := some ad) (n := p) (c := c) (k := 1) (by omega)
  have hcut1 : ∀ W : World, (Instr.slice 37 (.slice (some ad) p c) (some (.int .i64 1)) none none).run Tryd.prog W = .ok (.slice A' (p - 1) (c - 1)) W := hcut
  have hin' : InS B A' (p - 1) (ys.drop (32 * (j + 1))) := by
    rw [hA', show 32 * (j + 1) = 32 * j + 32 * 1 by omega, ← List.drop_drop]
    split
    · rename_i e
      obtain rfl : p = 1 := by omega
      have := hin.drop_ 1 (Nat.le_refl _)
      rw [Nat.sub_self] at this ⊢
      exact ⟨this.len, by rw [List.eq_nil_of_length_eq_zero (l := List.drop (32 * 1) (ys.drop (32 * j))) (by rw [this.len])]; exact Rd.nil _ _⟩
    · exact hin.drop_ 1 (by omega)
  have hc := h.var.cell
  rw [hp] at hc
  have e0 : (bvs zero32).toArray = #[.int .u8 0, .int .u8 0, .int .u8 0, .int .u8 0, .int .u8 0, .int .u8 0, .int .u8 0, .int .u8 0, .int .u8 0, .int .u8 0, .int .u8 0, .int .u8 0, .int .u8 0, .int .u8 0, .int .u8 0, .int .u8 0, .int .u8 0, .int .u8 0, .int .u8 0, .int .u8 0, .int .u8 0, .int .u8 0, .int .u8 0, .int .u8 0, .int .u8 0, .int .u8 0, .int .u8 0, .int .u8 0, .int .u8 0, .int .u8 0, .int .u8 0, .int .u8 0] := rfl
  have f1 := BArr.new w 34 zero32
  have b1 := below_alloc w (.cells (bvs zero32).toArray 34)
  have s1 : (w.alloc (.cells (bvs zero32).toArray 34)).heap.size = w.heap.size + 1 := by simp
  rw [e0] at f1 b1 s1
  clear e0
  have hc1 := (b1.cell h.var.lt).trans hc
  have hp1 : ((p : Int) == 0) = false := by simp; omega
  have hp2 : (0 : Int) < (p : Int) := by omega
  have HAt := Lib.hid ((hat.below h.below).below b1)
  have HF := Lib.hid (And.intro f1 (And.intro b1 s1))
  have HV := Lib.hid (h.var.below b1)
  have HH := Lib.hid (And.intro h (And.intro hin' hs))
  have HN := Lib.hid (And.intro hp (And.intro hj (And.intro hcap hn)))
  clear f1 b1 s1 hat hcut hA' hin' hin h hs hp hj hcap hn hc
  go_enter Tryd.func57, Tryd.ntmps57
  go_upto_region 1 with fail
  obtain ⟨w1, hw1⟩ : ∃ w1, w1 = w.alloc (.cells #[.int .u8 0, .int .u8 0, .int .u8 0, .int .u8 0, .int .u8 0, .int .u8 0, .int .u8 0, .int .u8 0, .int .u8 0, .int .u8 0, .int .u8 0, .int .u8 0, .int .u8 0, .int .u8 0, .int .u8 0, .int .u8 0, .int .u8 0, .int .u8 0, .int .u8 0, .int .u8 0, .int .u8 0, .int .u8 0, .int .u8 0, .int .u8 0, .int .u8 0, .int .u8 0, .int .u8 0, .int .u8 0, .int .u8 0, .int .u8 0, .int .u8 0, .int .u8 0] 34) := ⟨_, rfl⟩
  rw [← hw1] at HF HAt HV hc1 ⊢
  clear hw1
  have HZ32 := Lib.hid (show zero32.length = 32 from rfl)
  go_upto_region 4 with (first | with_reducible refine wpList_load_sum rfl (.tmp 8) rfl ad rfl s hl HAt.out ?_ | with_reducible refine wpList_store_new w1 _ rfl rfl (.tmp 2) (.tmp 9) rfl rfl s hl rfl ?_)
  have b2 := below_alloc w1 (.cells (bvs s).toArray 34)
  have g2 := BArr.new w1 34 s
  have V2 := HV.out.below b2
  have F2 := HF.out.1.below b2
  have s2 : (w1.alloc (.cells (bvs s).toArray 34)).heap.size = w1.heap.size + 1 := by simp
  have hc2 := (b2.cell HV.out.lt).trans hc1
  have hf2 := V2.free
  obtain ⟨w2, hw2⟩ : ∃ w2, w2 = w1.alloc (.cells (bvs s).toArray 34) := ⟨_, rfl⟩
  rw [← hw2] at b2 g2 V2 F2 s2 hc2 hf2 ⊢
  clear hw2
  have HG := Lib.hid (And.intro b2 (And.intro g2 (And.intro V2 (And.intro F2 s2))))
  clear b2 g2 V2 F2 s2
  go_upto_region 5 with fail
  obtain ⟨w3, hw3⟩ : ∃ w3, w3 = w2.setCell ⟨pb, 0, none⟩ (.slice A' (p - 1) (c - 1)) := ⟨_, rfl⟩
  rw [← hw3]
  have hpb : pb < w.heap.size := HH.out.1.var.lt
  have g3 : BArr w3 w1.heap.size 34 s := by rw [hw3]; exact HG.out.2.1.other _ _ (by have := HF.out.2.2; simp only; omega)
  have f3 : BArr w3 w.heap.size 34 zero32 := by rw [hw3]; exact HG.out.2.2.2.1.other _ _ (by simp only; omega)
  have v3 : VarAt w3 pb 37 (.slice A' (p - 1) (c - 1)) := by rw [hw3]; exact HG.out.2.2.1.set _
  have HK := Lib.hid (And.intro v3 hw3)
  have g3' := Lib.hid g3.at_
  clear v3 hw3 g3
  go_wp2_with (first | with_reducible refine wpList_load_sum rfl (.tmp 2) rfl ⟨w1.heap.size, 0, none⟩ rfl s hl g3'.out ?_ | with_reducible refine wpList_store_sum rfl (.tmp 1) (.tmp 12) rfl w.heap.size rfl zero32 s HZ32 hl f3 rfl ?_)
  refine bodyPost_ret_by (results_cell_row (p := 1) (ty := 34) (by kernel_rfl) _ _ w.heap.size 34 (bvs s).toArray (0, 0) _ rfl (f3.setRow _) Tryd.underlying34 rfl (by rw [List.size_toArray, bvs_length, hl]; exact sizeSum)) rfl ?_
  have bu : But (· = pb) w w3 := by rw [HK.out.2]; exact ((But.of_below HF.out.2.1).trans (But.of_below HG.out.1)).set 0 _ (fun _ => rfl)
  have HB := HH.out.1
  refine ⟨rfl, ⟨A', c - 1, ?_⟩, ?_⟩
  · have hpos := HB.pos
    have hnn := HN.out
    refine ⟨?_, ?_, ?_, by omega, ?_, hpos⟩
    · rw [show n - (j + 1) = p - 1 by omega]
      exact HK.out.1.setRow_other _ (by omega) _
    · rw [show n - (j + 1) = p - 1 by omega]; exact HH.out.2.1
    · omega
    · exact below_setRow (HB.below.trans (bu.below HB.below.size (fun b e => by rw [e]; exact hpos))) (by have := HB.below.size; omega) _
  · exact ⟨bu.os, bu.tape, bu.output, by rw [setRow_size]; exact bu.size, fun b hb hne => (Go.setRow_other _ _ _ _ (by omega)).trans (bu.block b hb hne)⟩
end

end Go.Proofs.YtllohbgejjbagaaDoor

/-
  paths.lead: what the sums of a path lead to; or the closure falls, and so does this.
-/
namespace Go.Proofs.YtllohbgejjbagaaDoor
open Go.RowKit

/-- The closure that takes the next one. -/
def takes (pb : Nat) : Value := .func (.func 57) #[] #[.pointer (some ⟨pb, 0, none⟩)]

/-- The world in which lead begins. -/
structure LeadIn (w w1 : World) (leaf : List Nat) : Prop where
  leaf : BArr w1 w.heap.size 34 leaf
  res : BArr w1 (w.heap.size + 1) 34 zero32
  below : Below w.heap.size w w1
  size : w1.heap.size = w.heap.size + 2

theorem leadIn_of (w : World) (leaf : List Nat) : LeadIn w ((w.alloc (.cells (bvs leaf).toArray 34)).alloc (.cells (bvs zero32).toArray 34)) leaf := by
  have f0 := (BArr.new w 34 leaf).alloc (.cells (bvs zero32).toArray 34)
  have f1 := BArr.new (w.alloc (.cells (bvs leaf).toArray 34)) 34 zero32
  rw [World.size_alloc] at f1
  exact ⟨f0, f1, (below_alloc w _).alloc (by simp) _, by simp⟩

section
variable {B w : World} {pb n j c : Nat} {A : Option Addr} {ys : List Nat} {leaf : List Nat} {at_ size : Nat}

set_option maxRecDepth 100000 in
set_option maxHeartbeats 2000000 in
theorem lead_one (h : PIn B w pb n j A c ys) (hl : leaf.length = 32) :
    Calls Tryd.prog 58 #[sv leaf, .int .u64 (at_ : Int), .int .u64 1, takes pb] w fun e w' => e = .returned (sv leaf) ∧ (∃ A' c', PIn B w' pb n j A' c' ys) ∧ But (· = pb) w w' := by
  have e0 : (bvs zero32).toArray = #[.int .u8 0, .int .u8 0, .int .u8 0, .int .u8 0, .int .u8 0, .int .u8 0, .int .u8 0, .int .u8 0, .int .u8 0, .int .u8 0, .int .u8 0, .int .u8 0, .int .u8 0, .int .u8 0, .int .u8 0, .int .u8 0, .int .u8 0, .int .u8 0, .int .u8 0, .int .u8 0, .int .u8 0, .int .u8 0, .int .u8 0, .int .u8 0, .int .u8 0, .int .u8 0, .int .u8 0, .int .u8 0, .int .u8 0, .int .u8 0, .int .u8 0, .int .u8 0] := rfl
  have h1 := leadIn_of w leaf
  rw [e0] at h1
  clear e0
  have H1 := Lib.hid h1
  have HP := Lib.hid h
  clear h1 h
  unfold sv takes
  go_enter Tryd.func58, Tryd.ntmps58
  go_upto_region 1 with fail
  obtain ⟨w1, hw1⟩ : ∃ w1, w1 = (w.alloc (.cells (bvs leaf).toArray 34)).alloc (.cells #[.int .u8 0, .int .u8 0, .int .u8 0, .int .u8 0, .int .u8 0, .int .u8 0, .int .u8 0, .int .u8 0, .int .u8 0, .int .u8 0, .int .u8 0, .int .u8 0, .int .u8 0, .int .u8 0, .int .u8 0, .int .u8 0, .int .u8 0, .int .u8 0, .int .u8 0, .int .u8 0, .int .u8 0, .int .u8 0, .int .u8 0, .int .u8 0, .int .u8 0, .int .u8 0, .int .u8 0, .int .u8 0, .int .u8 0, .int .u8 0, .int .u8 0, .int .u8 0] 34) := ⟨_, rfl⟩
  rw [← hw1] at H1 ⊢
  clear hw1
  have HZ32 := Lib.hid (show zero32.length = 32 from rfl)
  have hA := Lib.hid H1.out.leaf.at_
  have f1 := H1.out.res
  go_wp2_with (first | with_reducible refine wpList_load_sum rfl (.tmp 4) rfl ⟨w.heap.size, 0, none⟩ rfl leaf hl hA.out ?_ | with_reducible refine wpList_store_sum rfl (.tmp 8) (.tmp 14) rfl (w.heap.size + 1) rfl zero32 leaf HZ32 hl f1 rfl ?_)
  refine bodyPost_ret_by (results_cell_row (p := 8) (ty := 34) (by kernel_rfl) _ _ (w.heap.size + 1) 34 (bvs leaf).toArray (0, 0) _ rfl (f1.setRow _) Tryd.underlying34 rfl (by rw [List.size_toArray, bvs_length, hl]; exact sizeSum)) rfl ?_
  have hlt := HP.out.var.lt
  have hbb := HP.out.below.size
  exact ⟨rfl, ⟨A, c, (HP.out.below_ H1.out.below).setRow (by omega) (by omega) _⟩, But.of_below (below_setRow H1.out.below (by omega) _)⟩

set_option maxRecDepth 100000 in
set_option maxHeartbeats 4000000 in
theorem lead_low_fall (h : PIn B w pb n j A c ys) (hl : leaf.length = 32) (h2 : 2 ≤ size) (hz : size < 18446744073709551616) (hat : at_ < size) (ha : at_ < cutN size)
    (ih : ∀ w' : World, PIn B w' pb n j A c ys → Calls Tryd.prog 58 #[sv leaf, .int .u64 (at_ : Nat), .int .u64 ((cutN size) : Nat), takes pb] w' fun e w'' => e = .panicked fell ∧ But (· = pb) w' w'') :
    Calls Tryd.prog 58 #[sv leaf, .int .u64 (at_ : Int), .int .u64 (size : Int), takes pb] w fun e w' => e = .panicked fell ∧ But (· = pb) w w' := by
  have e0 : (bvs zero32).toArray = #[.int .u8 0, .int .u8 0, .int .u8 0, .int .u8 0, .int .u8 0, .int .u8 0, .int .u8 0, .int .u8 0, .int .u8 0, .int .u8 0, .int .u8 0, .int .u8 0, .int .u8 0, .int .u8 0, .int .u8 0, .int .u8 0, .int .u8 0, .int .u8 0, .int .u8 0, .int .u8 0, .int .u8 0, .int .u8 0, .int .u8 0, .int .u8 0, .int .u8 0, .int .u8 0, .int .u8 0, .int .u8 0, .int .u8 0, .int .u8 0, .int .u8 0, .int .u8 0] := rfl
  have h1 := leadIn_of w leaf
  rw [e0] at h1
  clear e0
  have H1 := Lib.hid h1
  have hcl := cutN_lt h2
  have hcp := cutN_pos size
  obtain ⟨k, hk0⟩ : ∃ k, cutN size = k := ⟨_, rfl⟩
  rw [hk0] at hcl hcp ha ih
  have hai : (at_ : Int) < (k : Int) := by omega
  have hs1 : ((size : Int) == 1) = false := by simp; omega
  have HP := Lib.hid h
  have IH := Lib.hid ih
  have HL := Lib.hid hl
  obtain ⟨w1, hw1⟩ : ∃ w1, w1 = (w.alloc (.cells (bvs leaf).toArray 34)).alloc (.cells #[.int .u8 0, .int .u8 0, .int .u8 0, .int .u8 0, .int .u8 0, .int .u8 0, .int .u8 0, .int .u8 0, .int .u8 0, .int .u8 0, .int .u8 0, .int .u8 0, .int .u8 0, .int .u8 0, .int .u8 0, .int .u8 0, .int .u8 0, .int .u8 0, .int .u8 0, .int .u8 0, .int .u8 0, .int .u8 0, .int .u8 0, .int .u8 0, .int .u8 0, .int .u8 0, .int .u8 0, .int .u8 0, .int .u8 0, .int .u8 0, .int .u8 0, .int .u8 0] 34) := ⟨_, rfl⟩
  rw [← hw1] at H1
  have HW := Lib.hid hw1
  have CM := Lib.hid (pleft_any size w1 h2 hz)
  rw [hk0] at CM
  have HX := Lib.hid (And.intro h2 (And.intro hz (And.intro hat (And.intro hcl (And.intro hcp hk0)))))
  clear h1 h ih h2 hz hat hcl hcp hk0 hw1 ha
  unfold sv takes
  go_enter Tryd.func58, Tryd.ntmps58
  go_upto_region 1 with fail
  rw [← HW.out]
  go_wp2_with fail
  refine CM.out.mono ?_
  rintro e w2 ⟨rfl, rfl⟩
  have hA := Lib.hid H1.out.leaf.at_
  go_wp2_with (with_reducible refine wpList_load_sum rfl (.tmp 4) rfl ⟨w.heap.size, 0, none⟩ rfl leaf hl hA.out ?_)
  refine (IH.out w2 (HP.out.below_ H1.out.below)).mono ?_
  rintro e w3 ⟨rfl, hb3⟩
  go_wp2_with fail
  exact ⟨rfl, rfl, (But.of_below H1.out.below).trans hb3⟩

set_option maxRecDepth 100000 in
set_option maxHeartbeats 4000000 in
theorem lead_low_short {L : List Nat} {q : Nat} (h : PIn B w pb n j A c ys) (hl : leaf.length = 32) (h2 : 2 ≤ size) (hz : size < 18446744073709551616) (hat : at_ < size) (ha : at_ < cutN size)
    (ih : ∀ w' : World, PIn B w' pb n j A c ys → Calls Tryd.prog 58 #[sv leaf, .int .u64 (at_ : Nat), .int .u64 ((cutN size) : Nat), takes pb] w' fun e w'' => e = .returned (sv L) ∧ (∃ A' c', PIn B w'' pb n q A' c' ys) ∧ But (· = pb) w' w'') (hL : L.length = 32) (hq : q = n) :
    Calls Tryd.prog 58 #[sv leaf, .int .u64 (at_ : Int), .int .u64 (size : Int), takes pb] w fun e w' => e = .panicked fell ∧ But (· = pb) w w' := by
  have e0 : (bvs zero32).toArray = #[.int .u8 0, .int .u8 0, .int .u8 0, .int .u8 0, .int .u8 0, .int .u8 0, .int .u8 0, .int .u8 0, .int .u8 0, .int .u8 0, .int .u8 0, .int .u8 0, .int .u8 0, .int .u8 0, .int .u8 0, .int .u8 0, .int .u8 0, .int .u8 0, .int .u8 0, .int .u8 0, .int .u8 0, .int .u8 0, .int .u8 0, .int .u8 0, .int .u8 0, .int .u8 0, .int .u8 0, .int .u8 0, .int .u8 0, .int .u8 0, .int .u8 0, .int .u8 0] := rfl
  have h1 := leadIn_of w leaf
  rw [e0] at h1
  clear e0
  have H1 := Lib.hid h1
  have hcl := cutN_lt h2
  have hcp := cutN_pos size
  obtain ⟨k, hk0⟩ : ∃ k, cutN size = k := ⟨_, rfl⟩
  rw [hk0] at hcl hcp ha ih
  have hai : (at_ : Int) < (k : Int) := by omega
  have hs1 : ((size : Int) == 1) = false := by simp; omega
  have HP := Lib.hid h
  have IH := Lib.hid ih
  have HL := Lib.hid hl
  obtain ⟨w1, hw1⟩ : ∃ w1, w1 = (w.alloc (.cells (bvs leaf).toArray 34)).alloc (.cells #[.int .u8 0, .int .u8 0, .int .u8 0, .int .u8 0, .int .u8 0, .int .u8 0, .int .u8 0, .int .u8 0, .int .u8 0, .int .u8 0, .int .u8 0, .int .u8 0, .int .u8 0, .int .u8 0, .int .u8 0, .int .u8 0, .int .u8 0, .int .u8 0, .int .u8 0, .int .u8 0, .int .u8 0, .int .u8 0, .int .u8 0, .int .u8 0, .int .u8 0, .int .u8 0, .int .u8 0, .int .u8 0, .int .u8 0, .int .u8 0, .int .u8 0, .int .u8 0] 34) := ⟨_, rfl⟩
  rw [← hw1] at H1
  have HW := Lib.hid hw1
  have CM := Lib.hid (pleft_any size w1 h2 hz)
  rw [hk0] at CM
  have HX := Lib.hid (And.intro h2 (And.intro hz (And.intro hat (And.intro hcl (And.intro hcp hk0)))))
  have HLL := Lib.hid hL
  have HQ := Lib.hid hq
  clear h1 h ih h2 hz hat hcl hcp hk0 hw1 ha hL hq
  unfold sv takes
  go_enter Tryd.func58, Tryd.ntmps58
  go_upto_region 1 with fail
  rw [← HW.out]
  go_wp2_with fail
  refine CM.out.mono ?_
  rintro e w2 ⟨rfl, rfl⟩
  have hA := Lib.hid H1.out.leaf.at_
  go_wp2_with (with_reducible refine wpList_load_sum rfl (.tmp 4) rfl ⟨w.heap.size, 0, none⟩ rfl leaf hl hA.out ?_)
  refine (IH.out w2 (HP.out.below_ H1.out.below)).mono ?_
  rintro e w3 ⟨rfl, ⟨A3, c3, hp3⟩, hb3⟩
  have HP3 := Lib.hid hp3
  have HB3 := Lib.hid ((But.of_below H1.out.below).trans hb3)
  have hlt := HP.out.var.lt
  have hsz := H1.out.size
  have r3 : BArr w3 (w.heap.size + 1) 34 zero32 := (hb3.block _ H1.out.res.lt (by omega)).trans H1.out.res
  have HR3 := Lib.hid r3
  have HS3 := Lib.hid (And.intro hlt (And.intro hsz hb3.size))
  clear hp3 hb3 hlt hsz r3
  have hLl := HLL.out
  go_upto_region 6 with (with_reducible refine wpList_store_new w3 _ rfl rfl (.tmp 10) (.tmp 24) rfl rfl L hLl rfl ?_)
  have b4 := below_alloc w3 (.cells (bvs L).toArray 34)
  have g4 := BArr.new w3 34 L
  obtain ⟨w4, hw4⟩ : ∃ w4, w4 = w3.alloc (.cells (bvs L).toArray 34) := ⟨_, rfl⟩
  rw [← hw4] at b4 g4 ⊢
  have HP4 := Lib.hid (HP3.out.below_ b4)
  have HR4 := Lib.hid (HR3.out.below b4)
  have HB4 := Lib.hid (HB3.out.trans (But.of_below b4))
  have H4 := Lib.hid (And.intro b4 g4)
  clear hw4 b4 g4
  have hS : BArr w4.drew w3.heap.size 34 L := H4.out.2
  refine wp_region_held (S := fun W => BArr W w3.heap.size 34 L) (by kernel_rfl) ?_
  change wpAnyH _ _ _ _ _ _ _ _ w4.drew
  refine' wpAnyH_take (i := 1) (oi := _) (v := _) ?him (by kernel_rfl) ?hfm ?hrm ?hQm ?hym hS ?restm
  case him => (simp only [List.getElem?_toArray, List.getElem?_cons_zero, List.getElem?_cons_succ]; rfl)
  case hfm => kernel_rfl
  case hrm => kernel_rfl
  case hQm => exact fun _ _ _ h => h
  case hym =>
    refine Or.inl ⟨by rfl, ?_⟩
    intro W hSw
    go_simp
    try with_reducible rfl
  simp only [Act.put, List.setIfInBounds_toArray, List.set_cons_zero, List.set_cons_succ]
  refine' wpAnyH_take (i := 0) (oi := _) (v := sv L) ?hil (by kernel_rfl) ?hfl ?hrl ?hQl ?hyl hS ?restl
  case hil => (simp only [List.getElem?_toArray, List.getElem?_cons_zero]; rfl)
  case hfl => kernel_rfl
  case hrl => kernel_rfl
  case hQl => exact fun _ _ _ h => h
  case hyl =>
    refine Or.inl ⟨by rfl, ?_⟩
    intro W hSw
    exact run_at_sum (.tmp 10) (by rfl) ⟨w3.heap.size, 0, none⟩ (by rfl) L HLL.out hSw.at_
  simp only [Act.put, List.setIfInBounds_toArray, List.set_cons_zero, List.set_cons_succ]
  refine wpAnyH_ready (rs := [2]) (by kernel_rfl) (by simp) ?_
  refine' AllReadyH.cons (o := _) ?hin (fun K1 hK1 => ?_) AllReadyH.nil
  case hin => (simp only [List.getElem?_toArray, List.getElem?_cons_zero, List.getElem?_cons_succ]; rfl)
  rw [if_pos (by rfl)]
  go_simp
  refine (next_none (HP4.out.below_ ((Below.refl _ _).drew)) HQ.out).mono ?_
  rintro e w5 ⟨rfl, hb5⟩
  go_wp2
  exact ⟨rfl, rfl, HB4.out.trans ((But.refl _ _).drew.trans (But.of_below hb5))⟩

set_option maxRecDepth 100000 in
set_option maxHeartbeats 4000000 in
theorem lead_low_yes {L : List Nat} {q : Nat} (h : PIn B w pb n j A c ys) (hl : leaf.length = 32) (h2 : 2 ≤ size) (hz : size < 18446744073709551616) (hat : at_ < size) (ha : at_ < cutN size)
    (ih : ∀ w' : World, PIn B w' pb n j A c ys → Calls Tryd.prog 58 #[sv leaf, .int .u64 (at_ : Nat), .int .u64 ((cutN size) : Nat), takes pb] w' fun e w'' => e = .returned (sv L) ∧ (∃ A' c', PIn B w'' pb n q A' c' ys) ∧ But (· = pb) w' w'') (hL : L.length = 32) (hLb : ∀ x ∈ L, x < 256) (hq : q < n) (hn : n ≤ 1000000) (hy : ∀ x ∈ ys, x < 256) (hlen : ys.length = 32 * n) (hk : Knows B) (hs : Starts B) :
    Calls Tryd.prog 58 #[sv leaf, .int .u64 (at_ : Int), .int .u64 (size : Int), takes pb] w fun e w' => e = .returned (sv (nodeL L (nth ys q))) ∧ (∃ A' c', PIn B w' pb n (q + 1) A' c' ys) ∧ But (· = pb) w w' := by
  have e0 : (bvs zero32).toArray = #[.int .u8 0, .int .u8 0, .int .u8 0, .int .u8 0, .int .u8 0, .int .u8 0, .int .u8 0, .int .u8 0, .int .u8 0, .int .u8 0, .int .u8 0, .int .u8 0, .int .u8 0, .int .u8 0, .int .u8 0, .int .u8 0, .int .u8 0, .int .u8 0, .int .u8 0, .int .u8 0, .int .u8 0, .int .u8 0, .int .u8 0, .int .u8 0, .int .u8 0, .int .u8 0, .int .u8 0, .int .u8 0, .int .u8 0, .int .u8 0, .int .u8 0, .int .u8 0] := rfl
  have h1 := leadIn_of w leaf
  rw [e0] at h1
  clear e0
  have H1 := Lib.hid h1
  have hcl := cutN_lt h2
  have hcp := cutN_pos size
  obtain ⟨k, hk0⟩ : ∃ k, cutN size = k := ⟨_, rfl⟩
  rw [hk0] at hcl hcp ha ih
  have hai : (at_ : Int) < (k : Int) := by omega
  have hs1 : ((size : Int) == 1) = false := by simp; omega
  have HP := Lib.hid h
  have IH := Lib.hid ih
  have HL := Lib.hid hl
  obtain ⟨w1, hw1⟩ : ∃ w1, w1 = (w.alloc (.cells (bvs leaf).toArray 34)).alloc (.cells #[.int .u8 0, .int .u8 0, .int .u8 0, .int .u8 0, .int .u8 0, .int .u8 0, .int .u8 0, .int .u8 0, .int .u8 0, .int .u8 0, .int .u8 0, .int .u8 0, .int .u8 0, .int .u8 0, .int .u8 0, .int .u8 0, .int .u8 0, .int .u8 0, .int .u8 0, .int .u8 0, .int .u8 0, .int .u8 0, .int .u8 0, .int .u8 0, .int .u8 0, .int .u8 0, .int .u8 0, .int .u8 0, .int .u8 0, .int .u8 0, .int .u8 0, .int .u8 0] 34) := ⟨_, rfl⟩
  rw [← hw1] at H1
  have HW := Lib.hid hw1
  have CM := Lib.hid (pleft_any size w1 h2 hz)
  rw [hk0] at CM
  have HX := Lib.hid (And.intro h2 (And.intro hz (And.intro hat (And.intro hcl (And.intro hcp hk0)))))
  have HLL := Lib.hid hL
  have HQ := Lib.hid (And.intro hLb (And.intro hq (And.intro hn (And.intro hy (And.intro hlen (And.intro hk hs))))))
  clear h1 h ih h2 hz hat hcl hcp hk0 hw1 ha hL hLb hq hn hy hlen hk hs
  unfold sv takes
  go_enter Tryd.func58, Tryd.ntmps58
  go_upto_region 1 with fail
  rw [← HW.out]
  go_wp2_with fail
  refine CM.out.mono ?_
  rintro e w2 ⟨rfl, rfl⟩
  have hA := Lib.hid H1.out.leaf.at_
  go_wp2_with (with_reducible refine wpList_load_sum rfl (.tmp 4) rfl ⟨w.heap.size, 0, none⟩ rfl leaf hl hA.out ?_)
  refine (IH.out w2 (HP.out.below_ H1.out.below)).mono ?_
  rintro e w3 ⟨rfl, ⟨A3, c3, hp3⟩, hb3⟩
  have HP3 := Lib.hid hp3
  have HB3 := Lib.hid ((But.of_below H1.out.below).trans hb3)
  have hlt := HP.out.var.lt
  have hsz := H1.out.size
  have r3 : BArr w3 (w.heap.size + 1) 34 zero32 := (hb3.block _ H1.out.res.lt (by omega)).trans H1.out.res
  have HR3 := Lib.hid r3
  have HS3 := Lib.hid (And.intro hlt (And.intro hsz hb3.size))
  clear hp3 hb3 hlt hsz r3
  have hLl := HLL.out
  go_upto_region 6 with (with_reducible refine wpList_store_new w3 _ rfl rfl (.tmp 10) (.tmp 24) rfl rfl L hLl rfl ?_)
  have b4 := below_alloc w3 (.cells (bvs L).toArray 34)
  have g4 := BArr.new w3 34 L
  obtain ⟨w4, hw4⟩ : ∃ w4, w4 = w3.alloc (.cells (bvs L).toArray 34) := ⟨_, rfl⟩
  rw [← hw4] at b4 g4 ⊢
  have HP4 := Lib.hid (HP3.out.below_ b4)
  have HR4 := Lib.hid (HR3.out.below b4)
  have HB4 := Lib.hid (HB3.out.trans (But.of_below b4))
  have H4 := Lib.hid (And.intro b4 g4)
  clear hw4 b4 g4
  have hS : BArr w4.drew w3.heap.size 34 L := H4.out.2
  refine wp_region_held (S := fun W => BArr W w3.heap.size 34 L) (by kernel_rfl) ?_
  change wpAnyH _ _ _ _ _ _ _ _ w4.drew
  refine' wpAnyH_take (i := 1) (oi := _) (v := _) ?him (by kernel_rfl) ?hfm ?hrm ?hQm ?hym hS ?restm
  case him => (simp only [List.getElem?_toArray, List.getElem?_cons_zero, List.getElem?_cons_succ]; rfl)
  case hfm => kernel_rfl
  case hrm => kernel_rfl
  case hQm => exact fun _ _ _ h => h
  case hym =>
    refine Or.inl ⟨by rfl, ?_⟩
    intro W hSw
    go_simp
    try with_reducible rfl
  simp only [Act.put, List.setIfInBounds_toArray, List.set_cons_zero, List.set_cons_succ]
  refine' wpAnyH_take (i := 0) (oi := _) (v := sv L) ?hil (by kernel_rfl) ?hfl ?hrl ?hQl ?hyl hS ?restl
  case hil => (simp only [List.getElem?_toArray, List.getElem?_cons_zero]; rfl)
  case hfl => kernel_rfl
  case hrl => kernel_rfl
  case hQl => exact fun _ _ _ h => h
  case hyl =>
    refine Or.inl ⟨by rfl, ?_⟩
    intro W hSw
    exact run_at_sum (.tmp 10) (by rfl) ⟨w3.heap.size, 0, none⟩ (by rfl) L HLL.out hSw.at_
  simp only [Act.put, List.setIfInBounds_toArray, List.set_cons_zero, List.set_cons_succ]
  refine wpAnyH_ready (rs := [2]) (by kernel_rfl) (by simp) ?_
  refine' AllReadyH.cons (o := _) ?hin (fun K1 hK1 => ?_) AllReadyH.nil
  case hin => (simp only [List.getElem?_toArray, List.getElem?_cons_zero, List.getElem?_cons_succ]; rfl)
  rw [if_pos (by rfl)]
  go_simp
  obtain ⟨s, hs0⟩ : ∃ s, nth ys q = s := ⟨_, rfl⟩
  have hsl : s.length = 32 := by rw [← hs0]; exact nth_length HQ.out.2.2.2.2.1 HQ.out.2.1
  have hsb : ∀ x ∈ s, x < 256 := by rw [← hs0]; exact nth_lt HQ.out.2.2.2.1 q
  obtain ⟨N, hN⟩ : ∃ N, nodeL L s = N := ⟨_, rfl⟩
  have hNl : N.length = 32 := by rw [← hN]; exact nodeL_length _ _
  have HNN := Lib.hid (And.intro hN (And.intro hNl (And.intro hsl (And.intro hsb hs0))))
  refine (next_some (HP4.out.below_ ((Below.refl _ _).drew)) HQ.out.2.1 HQ.out.2.2.1).mono ?_
  rw [hs0]
  clear hs0 hsl hsb hN hNl
  rintro e w5 ⟨rfl, ⟨A5, c5, hp5⟩, hb5⟩
  have g5 : BArr w5 w3.heap.size 34 L := (hb5.block _ H4.out.2.lt (by have := HS3.out; omega)).trans H4.out.2
  have r5 : BArr w5 (w.heap.size + 1) 34 zero32 := (hb5.block _ HR4.out.lt (by have := HS3.out; omega)).trans HR4.out
  have HP5 := Lib.hid hp5
  have HB5 := Lib.hid hb5
  have HR5 := Lib.hid r5
  clear hp5 hb5 r5
  refine hK1.out _ _ g5 (fun _ => ?_)
  clear hK1 K1
  refine wpAnyH_ready (rs := [3]) (by kernel_rfl) (by simp) ?_
  refine' AllReadyH.cons (o := _) ?hin2 (fun K2 hK2 => ?_) AllReadyH.nil
  case hin2 => (simp only [List.getElem?_toArray, List.getElem?_cons_zero, List.getElem?_cons_succ]; rfl)
  rw [if_pos (by rfl)]
  go_simp
  refine (node_any L s w5 HLL.out HNN.out.2.2.1 HQ.out.1 HNN.out.2.2.2.1 (HQ.out.2.2.2.2.2.1.below HP5.out.below) (HQ.out.2.2.2.2.2.2.below HP5.out.below)).mono ?_
  rintro e w6 ⟨rfl, hb6⟩
  rw [HNN.out.1]
  have g6 : BArr w6 w3.heap.size 34 L := g5.below hb6
  have r6 : BArr w6 (w.heap.size + 1) 34 zero32 := HR5.out.below hb6
  refine hK2.out _ _ g6 (fun _ => ?_)
  clear hK2 K2
  refine wpAnyH_ready (rs := [4]) (by kernel_rfl) (by simp) ?_
  refine' AllReadyH.cons (o := _) ?hin3 (fun K3 hK3 => ?_) AllReadyH.nil
  case hin3 => (simp only [List.getElem?_toArray, List.getElem?_cons_zero, List.getElem?_cons_succ]; rfl)
  rw [if_pos (by rfl)]
  refine step_store_sum (.tmp 8) (.tmp 28) rfl (w.heap.size + 1) rfl zero32 N rfl HNN.out.2.1 r6 rfl ?_
  refine hK3.out _ _ (g6.setRow_other _ (by have := HS3.out; omega) _) (fun _ => ?_)
  clear hK3 K3
  refine wpAnyH_done (by kernel_rfl) ?_ _
  go_wp2
  refine bodyPost_ret_by (results_cell_row (p := 8) (ty := 34) (by kernel_rfl) _ _ (w.heap.size + 1) 34 (bvs N).toArray (0, 0) _ rfl (r6.setRow _) Tryd.underlying34 rfl (by rw [List.size_toArray, bvs_length, HNN.out.2.1]; exact sizeSum)) rfl ?_
  have hlt := HP.out.var.lt
  have hbb := HP.out.below.size
  have b6 := (HB4.out.trans ((But.refl _ _).drew.trans HB5.out)).trans (But.of_below hb6)
  refine ⟨by rw [← HNN.out.1, ← HNN.out.2.2.2.2], ⟨A5, c5, (HP5.out.below_ hb6).setRow (by omega) (by omega) _⟩, ⟨b6.os, b6.tape, b6.output, by rw [setRow_size]; exact b6.size, fun b hb hne => (Go.setRow_other _ _ _ _ (by omega)).trans (b6.block b hb hne)⟩⟩

set_option maxRecDepth 100000 in
set_option maxHeartbeats 4000000 in
theorem lead_high_fall (h : PIn B w pb n j A c ys) (hl : leaf.length = 32) (h2 : 2 ≤ size) (hz : size < 18446744073709551616) (hat : at_ < size) (ha : ¬ at_ < cutN size)
    (ih : ∀ w' : World, PIn B w' pb n j A c ys → Calls Tryd.prog 58 #[sv leaf, .int .u64 ((at_ - cutN size) : Nat), .int .u64 ((size - cutN size) : Nat), takes pb] w' fun e w'' => e = .panicked fell ∧ But (· = pb) w' w'') :
    Calls Tryd.prog 58 #[sv leaf, .int .u64 (at_ : Int), .int .u64 (size : Int), takes pb] w fun e w' => e = .panicked fell ∧ But (· = pb) w w' := by
  have e0 : (bvs zero32).toArray = #[.int .u8 0, .int .u8 0, .int .u8 0, .int .u8 0, .int .u8 0, .int .u8 0, .int .u8 0, .int .u8 0, .int .u8 0, .int .u8 0, .int .u8 0, .int .u8 0, .int .u8 0, .int .u8 0, .int .u8 0, .int .u8 0, .int .u8 0, .int .u8 0, .int .u8 0, .int .u8 0, .int .u8 0, .int .u8 0, .int .u8 0, .int .u8 0, .int .u8 0, .int .u8 0, .int .u8 0, .int .u8 0, .int .u8 0, .int .u8 0, .int .u8 0, .int .u8 0] := rfl
  have h1 := leadIn_of w leaf
  rw [e0] at h1
  clear e0
  have H1 := Lib.hid h1
  have hcl := cutN_lt h2
  have hcp := cutN_pos size
  obtain ⟨k, hk0⟩ : ∃ k, cutN size = k := ⟨_, rfl⟩
  rw [hk0] at hcl hcp ha ih
  obtain ⟨a, ha0⟩ : ∃ a, at_ - k = a := ⟨_, rfl⟩
  obtain ⟨m, hm0⟩ : ∃ m, size - k = m := ⟨_, rfl⟩
  rw [ha0, hm0] at ih
  have ea : IntKind.u64.wrap ((at_ : Int) - (k : Int)) = (a : Int) := by rw [IntKind.wrap_u64]; omega
  have em : IntKind.u64.wrap ((size : Int) - (k : Int)) = (m : Int) := by rw [IntKind.wrap_u64]; omega
  have hai : ¬ (at_ : Int) < (k : Int) := by omega
  have hs1 : ((size : Int) == 1) = false := by simp; omega
  have HP := Lib.hid h
  have IH := Lib.hid ih
  have HL := Lib.hid hl
  obtain ⟨w1, hw1⟩ : ∃ w1, w1 = (w.alloc (.cells (bvs leaf).toArray 34)).alloc (.cells #[.int .u8 0, .int .u8 0, .int .u8 0, .int .u8 0, .int .u8 0, .int .u8 0, .int .u8 0, .int .u8 0, .int .u8 0, .int .u8 0, .int .u8 0, .int .u8 0, .int .u8 0, .int .u8 0, .int .u8 0, .int .u8 0, .int .u8 0, .int .u8 0, .int .u8 0, .int .u8 0, .int .u8 0, .int .u8 0, .int .u8 0, .int .u8 0, .int .u8 0, .int .u8 0, .int .u8 0, .int .u8 0, .int .u8 0, .int .u8 0, .int .u8 0, .int .u8 0] 34) := ⟨_, rfl⟩
  rw [← hw1] at H1
  have HW := Lib.hid hw1
  have CM := Lib.hid (pleft_any size w1 h2 hz)
  rw [hk0] at CM
  have HX := Lib.hid (And.intro h2 (And.intro hz (And.intro hat (And.intro hcl (And.intro hcp hk0)))))
  clear h1 h ih h2 hz hat hcl hcp hk0 hw1 ha ha0 hm0
  unfold sv takes
  go_enter Tryd.func58, Tryd.ntmps58
  go_upto_region 1 with fail
  rw [← HW.out]
  go_wp2_with fail
  refine CM.out.mono ?_
  rintro e w2 ⟨rfl, rfl⟩
  have hA := Lib.hid H1.out.leaf.at_
  go_wp2_with (with_reducible refine wpList_load_sum rfl (.tmp 4) rfl ⟨w.heap.size, 0, none⟩ rfl leaf hl hA.out ?_)
  refine (IH.out w2 (HP.out.below_ H1.out.below)).mono ?_
  rintro e w3 ⟨rfl, hb3⟩
  go_wp2_with fail
  exact ⟨rfl, rfl, (But.of_below H1.out.below).trans hb3⟩

set_option maxRecDepth 100000 in
set_option maxHeartbeats 4000000 in
theorem lead_high_short {L : List Nat} {q : Nat} (h : PIn B w pb n j A c ys) (hl : leaf.length = 32) (h2 : 2 ≤ size) (hz : size < 18446744073709551616) (hat : at_ < size) (ha : ¬ at_ < cutN size)
    (ih : ∀ w' : World, PIn B w' pb n j A c ys → Calls Tryd.prog 58 #[sv leaf, .int .u64 ((at_ - cutN size) : Nat), .int .u64 ((size - cutN size) : Nat), takes pb] w' fun e w'' => e = .returned (sv L) ∧ (∃ A' c', PIn B w'' pb n q A' c' ys) ∧ But (· = pb) w' w'') (hL : L.length = 32) (hq : q = n) :
    Calls Tryd.prog 58 #[sv leaf, .int .u64 (at_ : Int), .int .u64 (size : Int), takes pb] w fun e w' => e = .panicked fell ∧ But (· = pb) w w' := by
  have e0 : (bvs zero32).toArray = #[.int .u8 0, .int .u8 0, .int .u8 0, .int .u8 0, .int .u8 0, .int .u8 0, .int .u8 0, .int .u8 0, .int .u8 0, .int .u8 0, .int .u8 0, .int .u8 0, .int .u8 0, .int .u8 0, .int .u8 0, .int .u8 0, .int .u8 0, .int .u8 0, .int .u8 0, .int .u8 0, .int .u8 0, .int .u8 0, .int .u8 0, .int .u8 0, .int .u8 0, .int .u8 0, .int .u8 0, .int .u8 0, .int .u8 0, .int .u8 0, .int .u8 0, .int .u8 0] := rfl
  have h1 := leadIn_of w leaf
  rw [e0] at h1
  clear e0
  have H1 := Lib.hid h1
  have hcl := cutN_lt h2
  have hcp := cutN_pos size
  obtain ⟨k, hk0⟩ : ∃ k, cutN size = k := ⟨_, rfl⟩
  rw [hk0] at hcl hcp ha ih
  obtain ⟨a, ha0⟩ : ∃ a, at_ - k = a := ⟨_, rfl⟩
  obtain ⟨m, hm0⟩ : ∃ m, size - k = m := ⟨_, rfl⟩
  rw [ha0, hm0] at ih
  have ea : IntKind.u64.wrap ((at_ : Int) - (k : Int)) = (a : Int) := by rw [IntKind.wrap_u64]; omega
  have em : IntKind.u64.wrap ((size : Int) - (k : Int)) = (m : Int) := by rw [IntKind.wrap_u64]; omega
  have hai : ¬ (at_ : Int) < (k : Int) := by omega
  have hs1 : ((size : Int) == 1) = false := by simp; omega
  have HP := Lib.hid h
  have IH := Lib.hid ih
  have HL := Lib.hid hl
  obtain ⟨w1, hw1⟩ : ∃ w1, w1 = (w.alloc (.cells (bvs leaf).toArray 34)).alloc (.cells #[.int .u8 0, .int .u8 0, .int .u8 0, .int .u8 0, .int .u8 0, .int .u8 0, .int .u8 0, .int .u8 0, .int .u8 0, .int .u8 0, .int .u8 0, .int .u8 0, .int .u8 0, .int .u8 0, .int .u8 0, .int .u8 0, .int .u8 0, .int .u8 0, .int .u8 0, .int .u8 0, .int .u8 0, .int .u8 0, .int .u8 0, .int .u8 0, .int .u8 0, .int .u8 0, .int .u8 0, .int .u8 0, .int .u8 0, .int .u8 0, .int .u8 0, .int .u8 0] 34) := ⟨_, rfl⟩
  rw [← hw1] at H1
  have HW := Lib.hid hw1
  have CM := Lib.hid (pleft_any size w1 h2 hz)
  rw [hk0] at CM
  have HX := Lib.hid (And.intro h2 (And.intro hz (And.intro hat (And.intro hcl (And.intro hcp hk0)))))
  have HLL := Lib.hid hL
  have HQ := Lib.hid hq
  clear h1 h ih h2 hz hat hcl hcp hk0 hw1 ha ha0 hm0 hL hq
  unfold sv takes
  go_enter Tryd.func58, Tryd.ntmps58
  go_upto_region 1 with fail
  rw [← HW.out]
  go_wp2_with fail
  refine CM.out.mono ?_
  rintro e w2 ⟨rfl, rfl⟩
  have hA := Lib.hid H1.out.leaf.at_
  go_wp2_with (with_reducible refine wpList_load_sum rfl (.tmp 4) rfl ⟨w.heap.size, 0, none⟩ rfl leaf hl hA.out ?_)
  refine (IH.out w2 (HP.out.below_ H1.out.below)).mono ?_
  rintro e w3 ⟨rfl, ⟨A3, c3, hp3⟩, hb3⟩
  have HP3 := Lib.hid hp3
  have HB3 := Lib.hid ((But.of_below H1.out.below).trans hb3)
  have hlt := HP.out.var.lt
  have hsz := H1.out.size
  have r3 : BArr w3 (w.heap.size + 1) 34 zero32 := (hb3.block _ H1.out.res.lt (by omega)).trans H1.out.res
  have HR3 := Lib.hid r3
  have HS3 := Lib.hid (And.intro hlt (And.intro hsz hb3.size))
  clear hp3 hb3 hlt hsz r3
  have hLl := HLL.out
  go_upto_region 8 with (with_reducible refine wpList_store_new w3 _ rfl rfl (.tmp 11) (.tmp 37) rfl rfl L hLl rfl ?_)
  have b4 := below_alloc w3 (.cells (bvs L).toArray 34)
  have g4 := BArr.new w3 34 L
  obtain ⟨w4, hw4⟩ : ∃ w4, w4 = w3.alloc (.cells (bvs L).toArray 34) := ⟨_, rfl⟩
  rw [← hw4] at b4 g4 ⊢
  have HP4 := Lib.hid (HP3.out.below_ b4)
  have HR4 := Lib.hid (HR3.out.below b4)
  have HB4 := Lib.hid (HB3.out.trans (But.of_below b4))
  have H4 := Lib.hid (And.intro b4 g4)
  clear hw4 b4 g4
  have hS : BArr w4.drew w3.heap.size 34 L := H4.out.2
  refine wp_region_held (S := fun W => BArr W w3.heap.size 34 L) (by kernel_rfl) ?_
  change wpAnyH _ _ _ _ _ _ _ _ w4.drew
  refine' wpAnyH_take (i := 0) (oi := _) (v := _) ?him (by kernel_rfl) ?hfm ?hrm ?hQm ?hym hS ?restm
  case him => (simp only [List.getElem?_toArray, List.getElem?_cons_zero]; rfl)
  case hfm => kernel_rfl
  case hrm => kernel_rfl
  case hQm => exact fun _ _ _ h => h
  case hym =>
    refine Or.inl ⟨by rfl, ?_⟩
    intro W hSw
    go_simp
    try with_reducible rfl
  simp only [Act.put, List.setIfInBounds_toArray, List.set_cons_zero, List.set_cons_succ]
  refine' wpAnyH_take (i := 2) (oi := _) (v := sv L) ?hil (by kernel_rfl) ?hfl ?hrl ?hQl ?hyl hS ?restl
  case hil => (simp only [List.getElem?_toArray, List.getElem?_cons_zero, List.getElem?_cons_succ]; rfl)
  case hfl => kernel_rfl
  case hrl => kernel_rfl
  case hQl => exact fun _ _ _ h => h
  case hyl =>
    refine Or.inl ⟨by rfl, ?_⟩
    intro W hSw
    exact run_at_sum (.tmp 11) (by rfl) ⟨w3.heap.size, 0, none⟩ (by rfl) L HLL.out hSw.at_
  simp only [Act.put, List.setIfInBounds_toArray, List.set_cons_zero, List.set_cons_succ]
  refine wpAnyH_ready (rs := [1]) (by kernel_rfl) (by simp) ?_
  refine' AllReadyH.cons (o := _) ?hin (fun K1 hK1 => ?_) AllReadyH.nil
  case hin => (simp only [List.getElem?_toArray, List.getElem?_cons_zero, List.getElem?_cons_succ]; rfl)
  rw [if_pos (by rfl)]
  go_simp
  refine (next_none (HP4.out.below_ ((Below.refl _ _).drew)) HQ.out).mono ?_
  rintro e w5 ⟨rfl, hb5⟩
  go_wp2
  exact ⟨rfl, rfl, HB4.out.trans ((But.refl _ _).drew.trans (But.of_below hb5))⟩

set_option maxRecDepth 100000 in
set_option maxHeartbeats 4000000 in
theorem lead_high_yes {L : List Nat} {q : Nat} (h : PIn B w pb n j A c ys) (hl : leaf.length = 32) (h2 : 2 ≤ size) (hz : size < 18446744073709551616) (hat : at_ < size) (ha : ¬ at_ < cutN size)
    (ih : ∀ w' : World, PIn B w' pb n j A c ys → Calls Tryd.prog 58 #[sv leaf, .int .u64 ((at_ - cutN size) : Nat), .int .u64 ((size - cutN size) : Nat), takes pb] w' fun e w'' => e = .returned (sv L) ∧ (∃ A' c', PIn B w'' pb n q A' c' ys) ∧ But (· = pb) w' w'') (hL : L.length = 32) (hLb : ∀ x ∈ L, x < 256) (hq : q < n) (hn : n ≤ 1000000) (hy : ∀ x ∈ ys, x < 256) (hlen : ys.length = 32 * n) (hk : Knows B) (hs : Starts B) :
    Calls Tryd.prog 58 #[sv leaf, .int .u64 (at_ : Int), .int .u64 (size : Int), takes pb] w fun e w' => e = .returned (sv (nodeL (nth ys q) L)) ∧ (∃ A' c', PIn B w' pb n (q + 1) A' c' ys) ∧ But (· = pb) w w' := by
  have e0 : (bvs zero32).toArray = #[.int .u8 0, .int .u8 0, .int .u8 0, .int .u8 0, .int .u8 0, .int .u8 0, .int .u8 0, .int .u8 0, .int .u8 0, .int .u8 0, .int .u8 0, .int .u8 0, .int .u8 0, .int .u8 0, .int .u8 0, .int .u8 0, .int .u8 0, .int .u8 0, .int .u8 0, .int .u8 0, .int .u8 0, .int .u8 0, .int .u8 0, .int .u8 0, .int .u8 0, .int .u8 0, .int .u8 0, .int .u8 0, .int .u8 0, .int .u8 0, .int .u8 0, .int .u8 0] := rfl
  have h1 := leadIn_of w leaf
  rw [e0] at h1
  clear e0
  have H1 := Lib.hid h1
  have hcl := cutN_lt h2
  have hcp := cutN_pos size
  obtain ⟨k, hk0⟩ : ∃ k, cutN size = k := ⟨_, rfl⟩
  rw [hk0] at hcl hcp ha ih
  obtain ⟨a, ha0⟩ : ∃ a, at_ - k = a := ⟨_, rfl⟩
  obtain ⟨m, hm0⟩ : ∃ m, size - k = m := ⟨_, rfl⟩
  rw [ha0, hm0] at ih
  have ea : IntKind.u64.wrap ((at_ : Int) - (k : Int)) = (a : Int) := by rw [IntKind.wrap_u64]; omega
  have em : IntKind.u64.wrap ((size : Int) - (k : Int)) = (m : Int) := by rw [IntKind.wrap_u64]; omega
  have hai : ¬ (at_ : Int) < (k : Int) := by omega
  have hs1 : ((size : Int) == 1) = false := by simp; omega
  have HP := Lib.hid h
  have IH := Lib.hid ih
  have HL := Lib.hid hl
  obtain ⟨w1, hw1⟩ : ∃ w1, w1 = (w.alloc (.cells (bvs leaf).toArray 34)).alloc (.cells #[.int .u8 0, .int .u8 0, .int .u8 0, .int .u8 0, .int .u8 0, .int .u8 0, .int .u8 0, .int .u8 0, .int .u8 0, .int .u8 0, .int .u8 0, .int .u8 0, .int .u8 0, .int .u8 0, .int .u8 0, .int .u8 0, .int .u8 0, .int .u8 0, .int .u8 0, .int .u8 0, .int .u8 0, .int .u8 0, .int .u8 0, .int .u8 0, .int .u8 0, .int .u8 0, .int .u8 0, .int .u8 0, .int .u8 0, .int .u8 0, .int .u8 0, .int .u8 0] 34) := ⟨_, rfl⟩
  rw [← hw1] at H1
  have HW := Lib.hid hw1
  have CM := Lib.hid (pleft_any size w1 h2 hz)
  rw [hk0] at CM
  have HX := Lib.hid (And.intro h2 (And.intro hz (And.intro hat (And.intro hcl (And.intro hcp hk0)))))
  have HLL := Lib.hid hL
  have HQ := Lib.hid (And.intro hLb (And.intro hq (And.intro hn (And.intro hy (And.intro hlen (And.intro hk hs))))))
  clear h1 h ih h2 hz hat hcl hcp hk0 hw1 ha ha0 hm0 hL hLb hq hn hy hlen hk hs
  unfold sv takes
  go_enter Tryd.func58, Tryd.ntmps58
  go_upto_region 1 with fail
  rw [← HW.out]
  go_wp2_with fail
  refine CM.out.mono ?_
  rintro e w2 ⟨rfl, rfl⟩
  have hA := Lib.hid H1.out.leaf.at_
  go_wp2_with (with_reducible refine wpList_load_sum rfl (.tmp 4) rfl ⟨w.heap.size, 0, none⟩ rfl leaf hl hA.out ?_)
  refine (IH.out w2 (HP.out.below_ H1.out.below)).mono ?_
  rintro e w3 ⟨rfl, ⟨A3, c3, hp3⟩, hb3⟩
  have HP3 := Lib.hid hp3
  have HB3 := Lib.hid ((But.of_below H1.out.below).trans hb3)
  have hlt := HP.out.var.lt
  have hsz := H1.out.size
  have r3 : BArr w3 (w.heap.size + 1) 34 zero32 := (hb3.block _ H1.out.res.lt (by omega)).trans H1.out.res
  have HR3 := Lib.hid r3
  have HS3 := Lib.hid (And.intro hlt (And.intro hsz hb3.size))
  clear hp3 hb3 hlt hsz r3
  have hLl := HLL.out
  go_upto_region 8 with (with_reducible refine wpList_store_new w3 _ rfl rfl (.tmp 11) (.tmp 37) rfl rfl L hLl rfl ?_)
  have b4 := below_alloc w3 (.cells (bvs L).toArray 34)
  have g4 := BArr.new w3 34 L
  obtain ⟨w4, hw4⟩ : ∃ w4, w4 = w3.alloc (.cells (bvs L).toArray 34) := ⟨_, rfl⟩
  rw [← hw4] at b4 g4 ⊢
  have HP4 := Lib.hid (HP3.out.below_ b4)
  have HR4 := Lib.hid (HR3.out.below b4)
  have HB4 := Lib.hid (HB3.out.trans (But.of_below b4))
  have H4 := Lib.hid (And.intro b4 g4)
  clear hw4 b4 g4
  have hS : BArr w4.drew w3.heap.size 34 L := H4.out.2
  refine wp_region_held (S := fun W => BArr W w3.heap.size 34 L) (by kernel_rfl) ?_
  change wpAnyH _ _ _ _ _ _ _ _ w4.drew
  refine' wpAnyH_take (i := 0) (oi := _) (v := _) ?him (by kernel_rfl) ?hfm ?hrm ?hQm ?hym hS ?restm
  case him => (simp only [List.getElem?_toArray, List.getElem?_cons_zero]; rfl)
  case hfm => kernel_rfl
  case hrm => kernel_rfl
  case hQm => exact fun _ _ _ h => h
  case hym =>
    refine Or.inl ⟨by rfl, ?_⟩
    intro W hSw
    go_simp
    try with_reducible rfl
  simp only [Act.put, List.setIfInBounds_toArray, List.set_cons_zero, List.set_cons_succ]
  refine' wpAnyH_take (i := 2) (oi := _) (v := sv L) ?hil (by kernel_rfl) ?hfl ?hrl ?hQl ?hyl hS ?restl
  case hil => (simp only [List.getElem?_toArray, List.getElem?_cons_zero, List.getElem?_cons_succ]; rfl)
  case hfl => kernel_rfl
  case hrl => kernel_rfl
  case hQl => exact fun _ _ _ h => h
  case hyl =>
    refine Or.inl ⟨by rfl, ?_⟩
    intro W hSw
    exact run_at_sum (.tmp 11) (by rfl) ⟨w3.heap.size, 0, none⟩ (by rfl) L HLL.out hSw.at_
  simp only [Act.put, List.setIfInBounds_toArray, List.set_cons_zero, List.set_cons_succ]
  refine wpAnyH_ready (rs := [1]) (by kernel_rfl) (by simp) ?_
  refine' AllReadyH.cons (o := _) ?hin (fun K1 hK1 => ?_) AllReadyH.nil
  case hin => (simp only [List.getElem?_toArray, List.getElem?_cons_zero, List.getElem?_cons_succ]; rfl)
  rw [if_pos (by rfl)]
  go_simp
  obtain ⟨s, hs0⟩ : ∃ s, nth ys q = s := ⟨_, rfl⟩
  have hsl : s.length = 32 := by rw [← hs0]; exact nth_length HQ.out.2.2.2.2.1 HQ.out.2.1
  have hsb : ∀ x ∈ s, x < 256 := by rw [← hs0]; exact nth_lt HQ.out.2.2.2.1 q
  obtain ⟨N, hN⟩ : ∃ N, nodeL s L = N := ⟨_, rfl⟩
  have hNl : N.length = 32 := by rw [← hN]; exact nodeL_length _ _
  have HNN := Lib.hid (And.intro hN (And.intro hNl (And.intro hsl (And.intro hsb hs0))))
  refine (next_some (HP4.out.below_ ((Below.refl _ _).drew)) HQ.out.2.1 HQ.out.2.2.1).mono ?_
  rw [hs0]
  clear hs0 hsl hsb hN hNl
  rintro e w5 ⟨rfl, ⟨A5, c5, hp5⟩, hb5⟩
  have g5 : BArr w5 w3.heap.size 34 L := (hb5.block _ H4.out.2.lt (by have := HS3.out; omega)).trans H4.out.2
  have r5 : BArr w5 (w.heap.size + 1) 34 zero32 := (hb5.block _ HR4.out.lt (by have := HS3.out; omega)).trans HR4.out
  have HP5 := Lib.hid hp5
  have HB5 := Lib.hid hb5
  have HR5 := Lib.hid r5
  clear hp5 hb5 r5
  refine hK1.out _ _ g5 (fun _ => ?_)
  clear hK1 K1
  refine wpAnyH_ready (rs := [3]) (by kernel_rfl) (by simp) ?_
  refine' AllReadyH.cons (o := _) ?hin2 (fun K2 hK2 => ?_) AllReadyH.nil
  case hin2 => (simp only [List.getElem?_toArray, List.getElem?_cons_zero, List.getElem?_cons_succ]; rfl)
  rw [if_pos (by rfl)]
  go_simp
  refine (node_any s L w5 HNN.out.2.2.1 HLL.out HNN.out.2.2.2.1 HQ.out.1 (HQ.out.2.2.2.2.2.1.below HP5.out.below) (HQ.out.2.2.2.2.2.2.below HP5.out.below)).mono ?_
  rintro e w6 ⟨rfl, hb6⟩
  rw [HNN.out.1]
  have g6 : BArr w6 w3.heap.size 34 L := g5.below hb6
  have r6 : BArr w6 (w.heap.size + 1) 34 zero32 := HR5.out.below hb6
  refine hK2.out _ _ g6 (fun _ => ?_)
  clear hK2 K2
  refine wpAnyH_ready (rs := [4]) (by kernel_rfl) (by simp) ?_
  refine' AllReadyH.cons (o := _) ?hin3 (fun K3 hK3 => ?_) AllReadyH.nil
  case hin3 => (simp only [List.getElem?_toArray, List.getElem?_cons_zero, List.getElem?_cons_succ]; rfl)
  rw [if_pos (by rfl)]
  refine step_store_sum (.tmp 8) (.tmp 41) rfl (w.heap.size + 1) rfl zero32 N rfl HNN.out.2.1 r6 rfl ?_
  refine hK3.out _ _ (g6.setRow_other _ (by have := HS3.out; omega) _) (fun _ => ?_)
  clear hK3 K3
  refine wpAnyH_done (by kernel_rfl) ?_ _
  go_wp2
  refine bodyPost_ret_by (results_cell_row (p := 8) (ty := 34) (by kernel_rfl) _ _ (w.heap.size + 1) 34 (bvs N).toArray (0, 0) _ rfl (r6.setRow _) Tryd.underlying34 rfl (by rw [List.size_toArray, bvs_length, HNN.out.2.1]; exact sizeSum)) rfl ?_
  have hlt := HP.out.var.lt
  have hbb := HP.out.below.size
  have b6 := (HB4.out.trans ((But.refl _ _).drew.trans HB5.out)).trans (But.of_below hb6)
  refine ⟨by rw [← HNN.out.1, ← HNN.out.2.2.2.2], ⟨A5, c5, (HP5.out.below_ hb6).setRow (by omega) (by omega) _⟩, ⟨b6.os, b6.tape, b6.output, by rw [setRow_size]; exact b6.size, fun b hb hne => (Go.setRow_other _ _ _ _ (by omega)).trans (b6.block b hb hne)⟩⟩

end

/-- How many sums lead takes: all are there, or not. -/
theorem lead_any {B : World} {pb n : Nat} {ys : List Nat} (hn : n ≤ 1000000) (hy : ∀ x ∈ ys, x < 256) (hlen : ys.length = 32 * n) (hk : Knows B) (hs : Starts B) :
    ∀ (size at_ j : Nat) (A : Option Addr) (c : Nat) (leaf : List Nat) (w : World), PIn B w pb n j A c ys → leaf.length = 32 → (∀ x ∈ leaf, x < 256) → size < 18446744073709551616 → at_ < size →
      (j + dep at_ size ≤ n → Calls Tryd.prog 58 #[sv leaf, .int .u64 (at_ : Int), .int .u64 (size : Int), takes pb] w fun e w' => e = .returned (sv (leadF (nth ys) leaf at_ size j)) ∧ (∃ A' c', PIn B w' pb n (j + dep at_ size) A' c' ys) ∧ But (· = pb) w w') ∧
      (n < j + dep at_ size → Calls Tryd.prog 58 #[sv leaf, .int .u64 (at_ : Int), .int .u64 (size : Int), takes pb] w fun e w' => e = .panicked fell ∧ But (· = pb) w w') := by
  intro size
  induction size using Nat.strongRecOn with
  | ind size ih =>
    intro at_ j A c leaf w h hl hb hz hat
    by_cases h2 : size < 2
    · obtain rfl : size = 1 := by omega
      rw [dep_one h2, leadF_one _ _ h2]
      refine ⟨fun _ => lead_one h hl, fun hh => ?_⟩
      have := h.le
      omega
    · have hcl := cutN_lt (m := size) (by omega)
      have hcp := cutN_pos size
      by_cases ha : at_ < cutN size
      · rw [dep_low (by omega) ha, leadF_low _ _ (by omega) ha, ← Nat.add_assoc]
        have IH := fun (w' : World) (h' : PIn B w' pb n j A c ys) => ih (cutN size) hcl at_ j A c leaf w' h' hl hb (by omega) ha
        refine ⟨fun hh => ?_, fun hh => ?_⟩
        · exact lead_low_yes h hl (by omega) hz hat ha (fun w' h' => (IH w' h').1 (by omega)) (leadF_length _ _ hl _ _ _) (leadF_lt _ _ hb _ _ _) (by omega) hn hy hlen hk hs
        · by_cases hq : j + dep at_ (cutN size) = n
          · exact lead_low_short h hl (by omega) hz hat ha (fun w' h' => (IH w' h').1 (by omega)) (leadF_length _ _ hl _ _ _) hq
          · exact lead_low_fall h hl (by omega) hz hat ha (fun w' h' => (IH w' h').2 (by omega))
      · rw [dep_high (by omega) ha, leadF_high _ _ (by omega) ha, ← Nat.add_assoc]
        have IH := fun (w' : World) (h' : PIn B w' pb n j A c ys) => ih (size - cutN size) (by omega) (at_ - cutN size) j A c leaf w' h' hl hb (by omega) (by omega)
        refine ⟨fun hh => ?_, fun hh => ?_⟩
        · exact lead_high_yes h hl (by omega) hz hat ha (fun w' h' => (IH w' h').1 (by omega)) (leadF_length _ _ hl _ _ _) (leadF_lt _ _ hb _ _ _) (by omega) hn hy hlen hk hs
        · by_cases hq : j + dep (at_ - cutN size) (size - cutN size) = n
          · exact lead_high_short h hl (by omega) hz hat ha (fun w' h' => (IH w' h').1 (by omega)) (leadF_length _ _ hl _ _ _) hq
          · exact lead_high_fall h hl (by omega) hz hat ha (fun w' h' => (IH w' h').2 (by omega))

end Go.Proofs.YtllohbgejjbagaaDoor

/-
  paths.end: what a path leads to, and whether it has just as many sums as are taken; a fall of what is below is caught.
-/
namespace Go.Proofs.YtllohbgejjbagaaDoor
open Go.RowKit

/-- The world in which end begins. -/
structure EndIn (w w1 : World) (leaf : List Nat) (A : Option Addr) (n c : Nat) : Prop where
  leaf : BArr w1 w.heap.size 34 leaf
  path : VarAt w1 (w.heap.size + 1) 37 (.slice A n c)
  res : BArr w1 (w.heap.size + 2) 34 zero32
  below : Below w.heap.size w w1
  size : w1.heap.size = w.heap.size + 3

theorem endIn_of (w : World) (leaf : List Nat) (A : Option Addr) (n c : Nat) : EndIn w (((w.alloc (.cells (bvs leaf).toArray 34)).alloc (.cells #[.slice A n c] 37)).alloc (.cells (bvs zero32).toArray 34)) leaf A n c := by
  have f0 := ((BArr.new w 34 leaf).alloc (.cells #[.slice A n c] 37)).alloc (.cells (bvs zero32).toArray 34)
  have f1 := (VarAt.new (w.alloc (.cells (bvs leaf).toArray 34)) 37 (.slice A n c)).below (below_alloc _ (.cells (bvs zero32).toArray 34))
  have f2 := BArr.new ((w.alloc (.cells (bvs leaf).toArray 34)).alloc (.cells #[.slice A n c] 37)) 34 zero32
  rw [World.size_alloc] at f1
  rw [World.size_alloc, World.size_alloc] at f2
  exact ⟨f0, f1, f2, ((below_alloc w _).alloc (by simp) _).alloc (by simp; omega) _, by simp⟩

/-- What the deferred closure makes of a frame that panics, of one that returns. -/
theorem catch_fell (w : World) : CallsD Tryd.prog 56 #[] (.panicking fell) w fun e u' w' => e = .returned (.tuple #[]) ∧ settle u' = .returning ∧ w' = w := by
  refine callsD_of_wpS Tryd.func56 rfl fun c₀ cs hu => ?_
  apply wpS_region
  simp [wpOpsS, go_sem, recoverD, hu, fell, Tryd.ntmps56, bodyPostS, results, Tryd.results56, settle]
theorem catch_idle (w : World) : CallsD Tryd.prog 56 #[] .returning w fun e u' w' => e = .returned (.tuple #[]) ∧ u' = .returning ∧ w' = w := by
  refine callsD_of_wpS Tryd.func56 rfl fun c₀ cs hu => ?_
  apply wpS_region
  simp [wpOpsS, go_sem, recoverD, hu, Tryd.ntmps56]
  cases c₀
  simp_all [bodyPostS, results, Tryd.results56]

section
variable {w : World} {n c : Nat} {A : Option Addr} {ys leaf : List Nat} {at_ size : Nat}

set_option maxRecDepth 100000 in
set_option maxHeartbeats 2000000 in
theorem end_no (hin : InS w A n ys) (hy : ∀ x ∈ ys, x < 256) (hc : n ≤ c) (hn : n ≤ 1000000) (hl : leaf.length = 32) (hb : ∀ x ∈ leaf, x < 256) (hz : size < 18446744073709551616) (hat : at_ < size) (hk : Knows w) (hs : Starts w) (hd : n < dep at_ size) :
    Calls Tryd.prog 38 #[sv leaf, .int .u64 (at_ : Int), .int .u64 (size : Int), .slice A n c] w fun e w' => e = .returned (.tuple #[sv zero32, .bool false]) ∧ Below w.heap.size w w' := by
  have e0 : (bvs zero32).toArray = #[.int .u8 0, .int .u8 0, .int .u8 0, .int .u8 0, .int .u8 0, .int .u8 0, .int .u8 0, .int .u8 0, .int .u8 0, .int .u8 0, .int .u8 0, .int .u8 0, .int .u8 0, .int .u8 0, .int .u8 0, .int .u8 0, .int .u8 0, .int .u8 0, .int .u8 0, .int .u8 0, .int .u8 0, .int .u8 0, .int .u8 0, .int .u8 0, .int .u8 0, .int .u8 0, .int .u8 0, .int .u8 0, .int .u8 0, .int .u8 0, .int .u8 0, .int .u8 0] := rfl
  have h1 := endIn_of w leaf A n c
  rw [e0] at h1
  clear e0
  obtain ⟨w1, hw1⟩ : ∃ w1, w1 = ((w.alloc (.cells (bvs leaf).toArray 34)).alloc (.cells #[.slice A n c] 37)).alloc (.cells #[.int .u8 0, .int .u8 0, .int .u8 0, .int .u8 0, .int .u8 0, .int .u8 0, .int .u8 0, .int .u8 0, .int .u8 0, .int .u8 0, .int .u8 0, .int .u8 0, .int .u8 0, .int .u8 0, .int .u8 0, .int .u8 0, .int .u8 0, .int .u8 0, .int .u8 0, .int .u8 0, .int .u8 0, .int .u8 0, .int .u8 0, .int .u8 0, .int .u8 0, .int .u8 0, .int .u8 0, .int .u8 0, .int .u8 0, .int .u8 0, .int .u8 0, .int .u8 0] 34) := ⟨_, rfl⟩
  rw [← hw1] at h1
  have H1 := Lib.hid h1
  have HW := Lib.hid hw1
  have p1 : PIn w w1 (w.heap.size + 1) n 0 A c ys := ⟨h1.path, hin, hc, Nat.zero_le _, h1.below, Nat.le_succ _⟩
  have CL := Lib.hid ((lead_any hn hy hin.len hk hs size at_ 0 A c leaf w1 p1 hl hb hz hat).2 (by omega))
  clear h1 hw1 p1 hin hc hn hy hb hz hat hk hs hd
  have hmf : ∀ (fn : Fn) (first cap : Array Value) (w : World), (Instr.makeFunc fn first cap).run Tryd.prog w = .ok (.func fn first cap) w := fun _ _ _ _ => rfl
  have hA := Lib.hid H1.out.leaf.at_
  unfold sv
  go_enter_defers Tryd.func38, Tryd.ntmps38
  go_upto_region 1 with fail
  rw [← HW.out]
  go_wp2_with (with_reducible refine wpList_load_sum rfl (.tmp 4) rfl ⟨w.heap.size, 0, none⟩ rfl leaf hl hA.out ?_)
  refine CL.out.mono ?_
  rintro e w3 ⟨rfl, hb3⟩
  go_wp2_with fail
  refine leaves_cons (f := 56) (args := #[]) (by simp) (by simp [go_sem]) ?_
  refine (catch_fell w3).mono ?_
  rintro e u' w4 ⟨rfl, hu, rfl⟩
  have r3 : BArr w4 (w.heap.size + 2) 34 zero32 := (hb3.block _ H1.out.res.lt (by omega)).trans H1.out.res
  simp only [hu]
  refine ⟨_, results_cell_tmp (p := 8) (q := 9) (ty := 34) (by kernel_rfl) _ _ ⟨w.heap.size + 2, 0, none⟩ (sv zero32) rfl (run_load_sum w4 _ zero32 rfl r3.at_), rfl, ?_⟩
  exact H1.out.below.trans (hb3.below (by have := H1.out.size; omega) (fun b e => by omega))

set_option maxRecDepth 100000 in
set_option maxHeartbeats 2000000 in
theorem end_yes (hin : InS w A n ys) (hy : ∀ x ∈ ys, x < 256) (hc : n ≤ c) (hn : n ≤ 1000000) (hl : leaf.length = 32) (hb : ∀ x ∈ leaf, x < 256) (hz : size < 18446744073709551616) (hat : at_ < size) (hk : Knows w) (hs : Starts w) (hd : dep at_ size ≤ n) :
    Calls Tryd.prog 38 #[sv leaf, .int .u64 (at_ : Int), .int .u64 (size : Int), .slice A n c] w fun e w' => e = .returned (.tuple #[sv (leadF (nth ys) leaf at_ size 0), .bool (decide (dep at_ size = n))]) ∧ Below w.heap.size w w' := by
  have e0 : (bvs zero32).toArray = #[.int .u8 0, .int .u8 0, .int .u8 0, .int .u8 0, .int .u8 0, .int .u8 0, .int .u8 0, .int .u8 0, .int .u8 0, .int .u8 0, .int .u8 0, .int .u8 0, .int .u8 0, .int .u8 0, .int .u8 0, .int .u8 0, .int .u8 0, .int .u8 0, .int .u8 0, .int .u8 0, .int .u8 0, .int .u8 0, .int .u8 0, .int .u8 0, .int .u8 0, .int .u8 0, .int .u8 0, .int .u8 0, .int .u8 0, .int .u8 0, .int .u8 0, .int .u8 0] := rfl
  have h1 := endIn_of w leaf A n c
  rw [e0] at h1
  clear e0
  obtain ⟨w1, hw1⟩ : ∃ w1, w1 = ((w.alloc (.cells (bvs leaf).toArray 34)).alloc (.cells #[.slice A n c] 37)).alloc (.cells #[.int .u8 0, .int .u8 0, .int .u8 0, .int .u8 0, .int .u8 0, .int .u8 0, .int .u8 0, .int .u8 0, .int .u8 0, .int .u8 0, .int .u8 0, .int .u8 0, .int .u8 0, .int .u8 0, .int .u8 0, .int .u8 0, .int .u8 0, .int .u8 0, .int .u8 0, .int .u8 0, .int .u8 0, .int .u8 0, .int .u8 0, .int .u8 0, .int .u8 0, .int .u8 0, .int .u8 0, .int .u8 0, .int .u8 0, .int .u8 0, .int .u8 0, .int .u8 0] 34) := ⟨_, rfl⟩
  rw [← hw1] at h1
  have H1 := Lib.hid h1
  have HW := Lib.hid hw1
  have p1 : PIn w w1 (w.heap.size + 1) n 0 A c ys := ⟨h1.path, hin, hc, Nat.zero_le _, h1.below, Nat.le_succ _⟩
  have CL := Lib.hid ((lead_any hn hy hin.len hk hs size at_ 0 A c leaf w1 p1 hl hb hz hat).1 (by omega))
  obtain ⟨s, hs0⟩ : ∃ s, leadF (nth ys) leaf at_ size 0 = s := ⟨_, rfl⟩
  have hsl : s.length = 32 := by rw [← hs0]; exact leadF_length _ _ hl _ _ _
  rw [hs0] at CL ⊢
  obtain ⟨m, hm⟩ : ∃ m, n - dep at_ size = m := ⟨_, rfl⟩
  obtain ⟨b, hb0⟩ : ∃ b, decide (dep at_ size = n) = b := ⟨_, rfl⟩
  have hmb : ((m : Int) == 0) = b := by
    rw [← hb0]
    by_cases he : dep at_ size = n
    · have : m = 0 := by omega
      simp [he, this]
    · have : ¬ m = 0 := by omega
      simp [he, this]
  rw [Nat.zero_add] at CL
  rw [hb0]
  have HX := Lib.hid (And.intro hm hd)
  clear h1 hw1 p1 hin hc hn hy hb hz hat hk hs hd hs0 hm hb0
  have hmf : ∀ (fn : Fn) (first cap : Array Value) (w : World), (Instr.makeFunc fn first cap).run Tryd.prog w = .ok (.func fn first cap) w := fun _ _ _ _ => rfl
  have hA := Lib.hid H1.out.leaf.at_
  have HZ32 := Lib.hid (show zero32.length = 32 from rfl)
  unfold sv
  go_enter_defers Tryd.func38, Tryd.ntmps38
  go_upto_region 1 with fail
  rw [← HW.out]
  go_wp2_with (with_reducible refine wpList_load_sum rfl (.tmp 4) rfl ⟨w.heap.size, 0, none⟩ rfl leaf hl hA.out ?_)
  refine CL.out.mono ?_
  rintro e w3 ⟨rfl, ⟨A3, c3, hp3⟩, hb3⟩
  have r3 : BArr w3 (w.heap.size + 2) 34 zero32 := (hb3.block _ H1.out.res.lt (by omega)).trans H1.out.res
  have HP3 := Lib.hid hp3
  have HB3 := Lib.hid (H1.out.below.trans (hb3.below (by have := H1.out.size; omega) (fun b e => by omega)))
  clear hp3 hb3
  go_upto_region 4 with (with_reducible refine wpList_store_sum rfl (.tmp 8) (.tmp 16) rfl (w.heap.size + 2) rfl zero32 s HZ32 hsl r3 rfl ?_)
  have r4 : BArr (w3.setRow (w.heap.size + 2) (bvs s).toArray) (w.heap.size + 2) 34 s := r3.setRow s
  have v4 := HP3.out.var.setRow_other (w.heap.size + 2) (by omega) (bvs s).toArray
  rw [HX.out.1] at v4
  have b4 : Below w.heap.size w (w3.setRow (w.heap.size + 2) (bvs s).toArray) := below_setRow HB3.out (by omega) _
  obtain ⟨w4, hw4⟩ : ∃ w4, w4 = w3.setRow (w.heap.size + 2) (bvs s).toArray := ⟨_, rfl⟩
  rw [← hw4] at r4 v4 b4 ⊢
  clear hw4 r3
  have hS : BArr w4.drew (w.heap.size + 2) 34 s ∧ VarAt w4.drew (w.heap.size + 1) 37 (.slice A3 m c3) := ⟨r4, v4⟩
  have HB4 := Lib.hid b4
  clear b4
  refine wp_region_noPanic ?_
  refine wp_region_held (S := fun W => BArr W (w.heap.size + 2) 34 s ∧ VarAt W (w.heap.size + 1) 37 (.slice A3 m c3)) (by kernel_rfl) ?_
  change wpAnyH _ _ _ _ _ _ _ _ w4.drew
  refine' wpAnyH_take (i := 0) (oi := _) (v := sv s) ?hi0 (by kernel_rfl) ?hf0 ?hr0 ?hQ0 ?hy0 hS ?rest0
  case hi0 => (simp only [List.getElem?_toArray, List.getElem?_cons_zero]; rfl)
  case hf0 => kernel_rfl
  case hr0 => kernel_rfl
  case hQ0 => exact fun _ _ _ h => h.elim
  case hy0 =>
    refine Or.inl ⟨by rfl, ?_⟩
    intro W hSw
    exact run_at_sum (.tmp 8) (by rfl) ⟨w.heap.size + 2, 0, none⟩ (by rfl) s hsl hSw.1.at_
  simp only [Act.put, List.setIfInBounds_toArray, List.set_cons_zero, List.set_cons_succ]
  refine' wpAnyH_take (i := 1) (oi := _) (v := _) ?hi1 (by kernel_rfl) ?hf1 ?hr1 ?hQ1 ?hy1 hS ?rest1
  case hi1 => (simp only [List.getElem?_toArray, List.getElem?_cons_zero, List.getElem?_cons_succ]; rfl)
  case hf1 => kernel_rfl
  case hr1 => kernel_rfl
  case hQ1 => exact fun _ _ _ h => h.elim
  case hy1 =>
    refine Or.inl ⟨by rfl, ?_⟩
    intro W hSw
    have s0 := hSw.2.cell
    go_simp
    try with_reducible rfl
  simp only [Act.put, List.setIfInBounds_toArray, List.set_cons_zero, List.set_cons_succ]
  refine' wpAnyH_take (i := 2) (oi := _) (v := _) ?hi2 (by kernel_rfl) ?hf2 ?hr2 ?hQ2 ?hy2 hS ?rest2
  case hi2 => (simp only [List.getElem?_toArray, List.getElem?_cons_zero, List.getElem?_cons_succ]; rfl)
  case hf2 => kernel_rfl
  case hr2 => kernel_rfl
  case hQ2 => exact fun _ _ _ h => h.elim
  case hy2 =>
    refine Or.inl ⟨by rfl, ?_⟩
    intro W hSw
    have s0 := hSw.2.cell
    go_simp
    try with_reducible rfl
  simp only [Act.put, List.setIfInBounds_toArray, List.set_cons_zero, List.set_cons_succ]
  refine' wpAnyH_take (i := 3) (oi := _) (v := _) ?hi3 (by kernel_rfl) ?hf3 ?hr3 ?hQ3 ?hy3 hS ?rest3
  case hi3 => (simp only [List.getElem?_toArray, List.getElem?_cons_zero, List.getElem?_cons_succ]; rfl)
  case hf3 => kernel_rfl
  case hr3 => kernel_rfl
  case hQ3 => exact fun _ _ _ h => h.elim
  case hy3 =>
    refine Or.inl ⟨by rfl, ?_⟩
    intro W hSw
    have s0 := hSw.2.cell
    go_simp
    try with_reducible rfl
  simp only [Act.put, List.setIfInBounds_toArray, List.set_cons_zero, List.set_cons_succ]
  refine wpAnyH_ready (rs := [4]) (by kernel_rfl) (by simp) ?_
  refine' AllReadyH.cons (o := _) ?hin3 (fun K3 hK3 => ?_) AllReadyH.nil
  case hin3 => (simp only [List.getElem?_toArray, List.getElem?_cons_zero, List.getElem?_cons_succ]; rfl)
  rw [if_pos (by rfl)]
  refine step_store_sum (.tmp 8) (.tmp 17) rfl (w.heap.size + 2) rfl s s hsl hsl hS.1 rfl ?_
  have r5 : BArr (w4.drew.setRow (w.heap.size + 2) (bvs s).toArray) (w.heap.size + 2) 34 s := hS.1.setRow s
  have b5 : Below w.heap.size w (w4.drew.setRow (w.heap.size + 2) (bvs s).toArray) := below_setRow HB4.out.drew (by omega) _
  have hS5 : BArr (w4.drew.setRow (w.heap.size + 2) (bvs s).toArray) (w.heap.size + 2) 34 s ∧ VarAt (w4.drew.setRow (w.heap.size + 2) (bvs s).toArray) (w.heap.size + 1) 37 (.slice A3 m c3) := ⟨r5, hS.2.setRow_other _ (by omega) _⟩
  obtain ⟨w5, hw5⟩ : ∃ w5, w5 = w4.drew.setRow (w.heap.size + 2) (bvs s).toArray := ⟨_, rfl⟩
  rw [← hw5] at r5 b5 hS5 ⊢
  refine hK3.out _ _ hS5 (fun _ => ?_)
  clear hK3 K3 hw5
  refine' wpAnyH_take (i := 5) (oi := _) (v := _) ?hi5 (by kernel_rfl) ?hf5 ?hr5 ?hQ5 ?hy5 hS5 ?rest5
  case hi5 => (simp only [List.getElem?_toArray, List.getElem?_cons_zero, List.getElem?_cons_succ]; rfl)
  case hf5 => kernel_rfl
  case hr5 => kernel_rfl
  case hQ5 => exact fun _ _ _ h => h.elim
  case hy5 =>
    refine Or.inl ⟨by rfl, ?_⟩
    intro W hSw
    have s0 := hSw.2.cell
    go_simp
    try with_reducible rfl
  simp only [Act.put, List.setIfInBounds_toArray, List.set_cons_zero, List.set_cons_succ]
  refine wpAnyH_done (by kernel_rfl) ?_ _
  show NoPanic _ _ _ _
  refine NoPanic.normal ?_
  go_wp2
  refine leaves_cons (f := 56) (args := #[]) (by simp) (by simp [go_sem]) ?_
  refine (catch_idle w5).mono ?_
  rintro e u' w6 ⟨rfl, rfl, rfl⟩
  exact ⟨_, results_cell_tmp (p := 8) (q := 9) (ty := 34) (by kernel_rfl) _ _ ⟨w.heap.size + 2, 0, none⟩ (sv s) rfl (run_load_sum w6 _ s hsl r5.at_), rfl, b5⟩

end

end Go.Proofs.YtllohbgejjbagaaDoor

/-
  paths.Check.
-/
namespace Go.Proofs.YtllohbgejjbagaaDoor
open Go.RowKit

/-- The world in which Check begins. -/
structure CheckIn (w w1 : World) (leaf root : List Nat) : Prop where
  leaf : BArr w1 w.heap.size 34 leaf
  root : BArr w1 (w.heap.size + 1) 34 root
  below : Below w.heap.size w w1
  size : w1.heap.size = w.heap.size + 2

theorem checkIn_of (w : World) (leaf root : List Nat) : CheckIn w ((w.alloc (.cells (bvs leaf).toArray 34)).alloc (.cells (bvs root).toArray 34)) leaf root := by
  have f0 := (BArr.new w 34 leaf).alloc (.cells (bvs root).toArray 34)
  have f1 := BArr.new (w.alloc (.cells (bvs leaf).toArray 34)) 34 root
  rw [World.size_alloc] at f1
  exact ⟨f0, f1, (below_alloc w _).alloc (by simp) _, by simp⟩

section
variable {w : World} {n c : Nat} {A : Option Addr} {ys leaf root : List Nat} {at_ size : Nat}

set_option maxRecDepth 100000 in
set_option maxHeartbeats 2000000 in
theorem check_far (hge : size ≤ at_) :
    Calls Tryd.prog 19 #[sv leaf, .int .u64 (at_ : Int), .int .u64 (size : Int), .slice A n c, sv root] w fun e w' => e = .returned (.bool false) ∧ Below w.heap.size w w' := by
  have H1 := Lib.hid (checkIn_of w leaf root)
  have hi : (size : Int) ≤ (at_ : Int) := by omega
  unfold sv
  go_enter Tryd.func19, Tryd.ntmps19
  go_wp2_with fail
  go_ret
  exact ⟨rfl, H1.out.below⟩

set_option maxRecDepth 100000 in
set_option maxHeartbeats 2000000 in
theorem check_at (b : Bool) (s : List Nat) (hsl : s.length = 32) (hl : leaf.length = 32) (hr : root.length = 32) (hlt : at_ < size)
    (ce : ∀ w' : World, Below w.heap.size w w' → Calls Tryd.prog 38 #[sv leaf, .int .u64 (at_ : Int), .int .u64 (size : Int), .slice A n c] w' fun e w'' => e = .returned (.tuple #[sv s, .bool b]) ∧ Below w'.heap.size w' w'') :
    Calls Tryd.prog 19 #[sv leaf, .int .u64 (at_ : Int), .int .u64 (size : Int), .slice A n c, sv root] w fun e w' => e = .returned (.bool (b && decide (s = root))) ∧ Below w.heap.size w w' := by
  have e0 : (bvs zero32).toArray = #[.int .u8 0, .int .u8 0, .int .u8 0, .int .u8 0, .int .u8 0, .int .u8 0, .int .u8 0, .int .u8 0, .int .u8 0, .int .u8 0, .int .u8 0, .int .u8 0, .int .u8 0, .int .u8 0, .int .u8 0, .int .u8 0, .int .u8 0, .int .u8 0, .int .u8 0, .int .u8 0, .int .u8 0, .int .u8 0, .int .u8 0, .int .u8 0, .int .u8 0, .int .u8 0, .int .u8 0, .int .u8 0, .int .u8 0, .int .u8 0, .int .u8 0, .int .u8 0] := rfl
  obtain ⟨w1, hw1⟩ : ∃ w1, w1 = (w.alloc (.cells (bvs leaf).toArray 34)).alloc (.cells (bvs root).toArray 34) := ⟨_, rfl⟩
  have h1 := checkIn_of w leaf root
  rw [← hw1] at h1
  have H1 := Lib.hid h1
  have HW := Lib.hid hw1
  have CE := Lib.hid (ce w1 h1.below)
  have hi : ¬ (size : Int) ≤ (at_ : Int) := by omega
  have hA := Lib.hid h1.leaf.at_
  have HR := Lib.hid hr
  clear h1 hw1 ce hlt e0 hr
  unfold sv
  go_enter Tryd.func19, Tryd.ntmps19
  go_upto_region 1 with fail
  rw [← HW.out]
  go_wp2_with (with_reducible refine wpList_load_sum rfl (.tmp 5) rfl ⟨w.heap.size, 0, none⟩ rfl leaf hl hA.out ?_)
  refine CE.out.mono ?_
  rintro e w2 ⟨rfl, hb2⟩
  go_upto_region 4 with (with_reducible refine wpList_store_new w2 _ rfl rfl (.tmp 11) (.tmp 22) rfl rfl s hsl rfl ?_)
  have b3 := below_alloc w2 (.cells (bvs s).toArray 34)
  have g3 := BArr.new w2 34 s
  obtain ⟨w3, hw3⟩ : ∃ w3, w3 = w2.alloc (.cells (bvs s).toArray 34) := ⟨_, rfl⟩
  rw [← hw3] at b3 g3 ⊢
  clear hw3
  have gr := Lib.hid ((H1.out.root.below hb2).below b3).at_
  have gs := Lib.hid g3.at_
  have HB := Lib.hid ((below_on H1.out.below (Nat.le_refl _) hb2).trans (b3.mono (below_on H1.out.below (Nat.le_refl _) hb2).size))
  have hrl := HR.out
  have q1 := run_eql_sum s root hsl hrl
  have q2 := fun x y => run_guard_eql x y s root
  clear b3 g3 hb2
  cases b
  · go_wp2_with fail
    go_ret
    exact ⟨rfl, HB.out⟩
  · go_wp2_with (first | with_reducible refine wpList_load_sum_g rfl (.tmp 11) rfl ⟨w2.heap.size, 0, none⟩ rfl s hsl gs.out ?_ | with_reducible refine wpList_load_sum_g rfl (.tmp 9) rfl ⟨w.heap.size + 1, 0, none⟩ rfl root hrl gr.out ?_)
    go_ret
    exact ⟨rfl, HB.out⟩

/-- Whether the leaf at a place is in a tree of so many leaves, by that path. -/
def inTree (ys leaf root : List Nat) (n at_ size : Nat) : Bool := decide (at_ < size) && (decide (dep at_ size = n) && decide (leadF (nth ys) leaf at_ size 0 = root))

theorem check_any (hin : InS w A n ys) (hy : ∀ x ∈ ys, x < 256) (hc : n ≤ c) (hn : n ≤ 1000000) (hl : leaf.length = 32) (hb : ∀ x ∈ leaf, x < 256) (hr : root.length = 32) (hz : size < 18446744073709551616) (hk : Knows w) (hs : Starts w) :
    Calls Tryd.prog 19 #[sv leaf, .int .u64 (at_ : Int), .int .u64 (size : Int), .slice A n c, sv root] w fun e w' => e = .returned (.bool (inTree ys leaf root n at_ size)) ∧ Below w.heap.size w w' := by
  unfold inTree
  by_cases hat : at_ < size
  · rw [decide_eq_true hat, Bool.true_and]
    by_cases hd : dep at_ size ≤ n
    · exact check_at _ _ (leadF_length _ _ hl _ _ _) hl hr hat fun w' hb' => end_yes (hin.below hb') hy hc hn hl hb hz hat (hk.below hb') (hs.below hb') hd
    · rw [decide_eq_false (p := dep at_ size = n) (by omega), Bool.false_and]
      have := check_at (w := w) (n := n) (c := c) (A := A) false zero32 rfl hl hr hat fun w' hb' => end_no (hin.below hb') hy hc hn hl hb hz hat (hk.below hb') (hs.below hb') (by omega)
      rwa [Bool.false_and] at this
  · rw [decide_eq_false hat, Bool.false_and]
    exact check_far (by omega)
end

end Go.Proofs.YtllohbgejjbagaaDoor

/-
  errors.Is of a sentinel and itself, or of none and one.
-/
namespace Go.Proofs.YtllohbgejjbagaaDoor
open Go.RowKit Go.Extern.Stop Go.Stop Go.Extern

theorem isTypeOf (v : Value) (w : World) : (Extern.ReflectliteType.typeOf #[.iface 144 v]).run Tryd.prog w = .ok (.iface 127 (.agg #[.pointer (some ⟨3, 144, none⟩)])) w := by kernel_rfl
theorem isComparable (w : World) : (callFunc 107 #[.agg #[.pointer (some ⟨3, 144, none⟩)]]).run Tryd.prog w = .ok (.value (.bool true)) w := by
  rw [@run_callFunc_extern Tryd.prog 107 _ (Extern.ReflectliteType.method fun t => do Go.Extern.Rtype.noPackHeld "Comparable" t; pure (.bool (← typeInfo t).comparable)) Tryd.func107 (by kernel_rfl) (by kernel_rfl) (by kernel_rfl) (by kernel_rfl)]
  kernel_rfl
theorem isMethodComparable (n : Nat) (v : Value) (w : World) : (Go.method (n + 1) 127 v "Comparable").run Tryd.prog w = .ok (107, v) w := by kernel_rfl
theorem isComp : (Tryd.prog.info? 144).map (·.comparable) = some true := by kernel_rfl
theorem isSize : (Tryd.prog.info? 169).map (·.size) = some 1 := by kernel_rfl

set_option maxRecDepth 100000 in
theorem is1_same (a : Addr) (w : World) :
    Calls Tryd.prog 64 #[.iface 144 (.pointer (some a)), .iface 144 (.pointer (some a)), .bool true] w fun e w' => e = .returned (.bool true) ∧ w = w' := by
  obtain ⟨i, hi, hcmp⟩ := Option.map_eq_some_iff.1 isComp
  obtain ⟨j, hj, hjs⟩ := Option.map_eq_some_iff.1 isSize
  have heq := run_eql_iface_ptr_same (P := Tryd.prog) w a Tryd.underlying77 Tryd.underlying144 hi hcmp hj
  go_enter Tryd.func64, Tryd.ntmps64
  go_wp2
  refine wp_loop_rounds 1 ?_
  rw [rounds_succ]
  go_wp2
  go_ret
  exact ⟨rfl, rfl⟩

set_option maxRecDepth 100000 in
/-- errors.Is(x, x). -/
theorem is_same (a : Addr) (w : World) :
    Calls Tryd.prog 41 #[.iface 144 (.pointer (some a)), .iface 144 (.pointer (some a))] w fun e w' => e = .returned (.bool true) ∧ w = w' := by
  have h8 := @run_callFunc_extern Tryd.prog 63 _ Extern.ReflectliteType.typeOf Tryd.func63 (by kernel_rfl) (by kernel_rfl) (by kernel_rfl) (by kernel_rfl)
  have tT := isTypeOf
  have cT := isComparable
  have mR := isMethodComparable
  have h1 := is1_same a w
  go_enter Tryd.func41, Tryd.ntmps41
  go_wp2_with (go_at_call 64; refine h1.mono ?_; rintro e w' ⟨rfl, rfl⟩)
  go_ret
  exact ⟨rfl, rfl⟩

/-- errors.Is(nil, x). -/
theorem is_nil (b : Addr) (w : World) :
    Calls Tryd.prog 41 #[.nilIface, .iface 144 (.pointer (some b))] w fun e w' => e = .returned (.bool false) ∧ w = w' := by
  have hn := run_eql_iface_nil_left (P := Tryd.prog) w 144 (.pointer (some b)) Tryd.underlying77
  go_enter Tryd.func41, Tryd.ntmps41
  go_wp2
  go_ret
  exact ⟨rfl, rfl⟩

end Go.Proofs.YtllohbgejjbagaaDoor

/-
  The sentinel of package links, and where it lies.
-/
namespace Go.Proofs.YtllohbgejjbagaaDoor
open Go.RowKit

/-- The sentinel as a value: a pointer to E. -/
def missV (E : Addr) : Value := .iface 144 (.pointer (some E))
/-- The variable holds it. -/
def Miss (w : World) (E : Addr) : Prop := w.cell? ⟨0, 0, none⟩ = some (missV E)
theorem Miss.below {w w' : World} {E : Addr} (h : Miss w E) (hb : Below w.heap.size w w') : Miss w' E := (hb.cell (World.block_lt_of_cell? w _ h)).trans h
theorem Miss.lt {w : World} {E : Addr} (h : Miss w E) : 0 < w.heap.size := World.block_lt_of_cell? w _ h

end Go.Proofs.YtllohbgejjbagaaDoor

/-
  Two sums as one value: an array of them, loaded, stored, held against another one.
-/
namespace Go.Proofs.YtllohbgejjbagaaDoor
open Go.RowKit

theorem sizePair : (Tryd.prog.info? 75).map (·.size) = some 64 := by kernel_rfl
theorem cellsSumP : Tryd.prog.cellsOf 34 = 32 := by kernel_rfl

set_option maxRecDepth 100000 in
theorem run_part_sum (w : World) (l s : List Nat) (i : Nat) (h : (l.drop i).take 32 = s) : (part 34 (bvs l).toArray i).run Tryd.prog w = .ok (sv s) w := by
  have hagg : (isAgg 34).run Tryd.prog w = .ok true w := by
    unfold isAgg
    rw [Sem.run_bind, run_underlying Tryd.underlying34 w]
    rfl
  have hx : List.take 32 (List.drop i (bvs l)) = bvs s := by
    rw [← h]
    unfold bvs
    rw [List.map_take, List.map_drop]
  cases hq : Tryd.prog.info? 34 with
  | none => have := sizeSum; simp [hq] at this
  | some j =>
    have hs : j.size = 32 := by have := sizeSum; simpa [hq] using this
    simp [part, Sem.run_bind, hagg, sizeOf, typeInfo, hq, hs, hx, sv]

theorem run_items_cons {P : Program} {w : World} {d : Nat} {e : TypeId} {c i : Nat} {xs ys : Array Value} {is : List Nat} {x y : Value} {r : Bool} (h1 : (part e xs (i * c)).run P w = .ok x w) (h2 : (part e ys (i * c)).run P w = .ok y w)
    (h3 : (Op.equalIn d e x y).run P w = .ok r w) : (Op.eqItems d e c xs ys (i :: is)).run P w = if r = true then (Op.eqItems d e c xs ys is).run P w else .ok false w := by
  simp only [Op.eqItems, Sem.run_bind, h1, h2, h3, Result.andThen_ok]
  cases r <;> rfl

set_option maxRecDepth 100000 in
theorem run_eq_pair (w : World) (d : Nat) (x y x' y' : List Nat) (hx : x.length = 32) (hy : y.length = 32) (hx' : x'.length = 32) (hy' : y'.length = 32) :
    (Op.equalIn (d + 3) 75 (sv (x ++ y)) (sv (x' ++ y'))).run Tryd.prog w = .ok (decide (x = x') && decide (y = y')) w := by
  obtain ⟨i0, hi⟩ : ∃ i0, Tryd.prog.info? 34 = some i0 := by
    cases hq : Tryd.prog.info? 34 with
    | none => have := sizeSum; simp [hq] at this
    | some j => exact ⟨j, rfl⟩
  have p1 := run_part_sum w (x ++ y) x (0 * 32) (by rw [Nat.zero_mul, List.drop_zero, ← hx, List.take_left])
  have p2 := run_part_sum w (x ++ y) y (1 * 32) (by rw [Nat.one_mul, ← hx, List.drop_left, hx, ← hy, List.take_length])
  have p3 := run_part_sum w (x' ++ y') x' (0 * 32) (by rw [Nat.zero_mul, List.drop_zero, ← hx', List.take_left])
  have p4 := run_part_sum w (x' ++ y') y' (1 * 32) (by rw [Nat.one_mul, ← hx', List.drop_left, hx', ← hy', List.take_length])
  have q1 := run_eq_sum w d x x' hx hx'
  have q2 := run_eq_sum w d y y' hy hy'
  generalize hc : (32 : Nat) = c at p1 p2 p3 p4
  have hce : Tryd.prog.cellsOf 34 = c := by rw [← hc]; exact cellsSumP
  have e1 : sv (x ++ y) = .agg (bvs (x ++ y)).toArray := rfl
  have e2 : sv (x' ++ y') = .agg (bvs (x' ++ y')).toArray := rfl
  rw [e1, e2, run_equalIn_array w (d + 2) _ _ Tryd.underlying75 hi, hce, show List.range 2 = [0, 1] from rfl, run_items_cons p1 p3 q1, run_items_cons p2 p4 q2]
  have hnil : (Op.eqItems (d + 2) 34 c (bvs (x ++ y)).toArray (bvs (x' ++ y')).toArray []).run Tryd.prog w = .ok true w := by simp only [Op.eqItems, Sem.run_pure]
  rw [hnil]
  cases decide (x = x') <;> cases decide (y = y') <;> rfl

set_option maxRecDepth 100000 in
theorem run_eql_pair (x y x' y' : List Nat) (hx : x.length = 32) (hy : y.length = 32) (hx' : x'.length = 32) (hy' : y'.length = 32) (w : World) :
    (binOp .eql 75 (sv (x ++ y)) (sv (x' ++ y'))).run Tryd.prog w = .ok (.bool (decide (x = x') && decide (y = y'))) w := by
  have h := run_eq_pair w 9997 x y x' y' hx hy hx' hy'
  unfold sv at h ⊢
  rw [run_eql_struct, h]
  rfl
theorem run_guard_pair (x y : Operand) (s t : List Nat) (w : World) : (eqGuard .eql 75 x y (sv s) (sv t)).run Tryd.prog w = .ok () w := by
  simp [eqGuard, sv]

set_option maxRecDepth 100000 in
theorem run_load_pair (w : World) (ad : Addr) (s : List Nat) (hl : s.length = 64) (hc : At w ad s) : (loadVar 75 ad).run Tryd.prog w = .ok (sv s) w := by
  have hl' : (bvs s).length = 64 := by rw [bvs_length, hl]
  have h1 : (loadCells ad (bvs s).length).run Tryd.prog w = .ok (bvs s).toArray w :=
    run_loadCells_list (P := Tryd.prog) w ad (bvs s) (fun j v hv => by
      rw [bvs_get] at hv
      obtain ⟨y, hy, rfl⟩ := Option.map_eq_some_iff.1 hv
      exact hc j y hy)
  rw [hl'] at h1
  have hagg : (isAgg 75).run Tryd.prog w = .ok true w := by
    unfold isAgg
    rw [Sem.run_bind, run_underlying Tryd.underlying75 w]
    rfl
  cases hq : Tryd.prog.info? 75 with
  | none => have := sizePair; simp [hq] at this
  | some i =>
    have hs : i.size = 64 := by have := sizePair; simpa [hq] using this
    simp [loadVar, Sem.run_bind, hagg, sizeOf, typeInfo, hq, hs, h1, sv]

theorem wpList_load_pair {ops : Array Oper} {rest : List Oper} {o : Oper} {a : Act} {w : World} {Q : Exit → Act → World → Prop} (hgd : o.guard = none) (x : Operand) (ho : o.op = .load 75 x)
    (ad : Addr) (hx : a.eval x = .pointer (some ad)) (s : List Nat) (hl : s.length = 64) (hc : At w ad s)
    (h : wpList Tryd.prog ops Q rest (a.put o.dst (sv s)) w) : wpList Tryd.prog ops Q (o :: rest) a w := by
  refine wpList_plain hgd fun K hK => ?_
  unfold Oper.wp execOp
  simp only [ho, hx, Instr.loadAt, Instr.sureAddr, Sem.run_bind, Sem.run_pure, Result.andThen_ok, run_load_pair w ad s hl hc]
  exact hK _ _ h

/-- A pair into the variable that was made last. -/
theorem wpList_store_newP {ops : Array Oper} {rest : List Oper} {o : Oper} {a : Act} {Q : Exit → Act → World → Prop} (w : World) (Z : Array Value) (hZ : Z.size = 64) (hgd : o.guard = none) (x y : Operand) (ho : o.op = .store 75 x y)
    (hx : a.eval x = .pointer (some ⟨w.heap.size, 0, none⟩)) (s : List Nat) (hl : s.length = 64) (hy : a.eval y = sv s)
    (h : wpList Tryd.prog ops Q rest (a.put o.dst undef) (w.alloc (.cells (bvs s).toArray 75))) : wpList Tryd.prog ops Q (o :: rest) a (w.alloc (.cells Z 75)) := by
  have hs : (bvs s).toArray.size = 64 := by rw [List.size_toArray, bvs_length, hl]
  refine wpList_store_row hgd 75 x y ho w.heap.size (bvs s).toArray hx hy 75 Z (World.alloc_heap_new w _) (by rw [hs]; exact sizePair) (by rw [hZ, hs]) ?_ ?_
  · exact Array.all_eq_true_iff_forall_mem.2 (fun v hv => bvs_oneCell s v (by simpa using hv))
  · rw [World.setRow_alloc_new]
    exact h

theorem wpList_store_pair {ops : Array Oper} {rest : List Oper} {o : Oper} {a : Act} {w : World} {Q : Exit → Act → World → Prop} (hgd : o.guard = none) (x y : Operand) (ho : o.op = .store 75 x y)
    (g : Nat) (hx : a.eval x = .pointer (some ⟨g, 0, none⟩)) {T : TypeId} (xs ys : List Nat) (hl : xs.length = 64) (hl' : ys.length = 64) (hc : BArr w g T xs) (hy : a.eval y = sv ys)
    (h : wpList Tryd.prog ops Q rest (a.put o.dst undef) (w.setRow g (bvs ys).toArray)) : wpList Tryd.prog ops Q (o :: rest) a w := by
  refine wpList_store_row hgd 75 x y ho g (bvs ys).toArray hx hy T (bvs xs).toArray hc (by rw [List.size_toArray, bvs_length, hl']; exact sizePair) (by rw [List.size_toArray, List.size_toArray, bvs_length, bvs_length, hl, hl']) ?_ h
  exact Array.all_eq_true_iff_forall_mem.2 (fun v hv => bvs_oneCell ys v (by simpa using hv))

end Go.Proofs.YtllohbgejjbagaaDoor

/-
  links.ends' closure that takes the next sum out of a variable: it answers an error where there is none.
-/
namespace Go.Proofs.YtllohbgejjbagaaDoor
open Go.RowKit

/-- The closure that takes the next one, and the one that leads. -/
def takesK (lb : Nat) : Value := .func (.func 60) #[] #[.pointer (some ⟨lb, 0, none⟩)]
def leadsK (ab nb gb : Nat) : Value := .func (.func 61) #[] #[.pointer (some ⟨ab, 0, none⟩), .pointer (some ⟨nb, 0, none⟩), .pointer (some ⟨gb, 0, none⟩)]

/-- The link stands in variable lb, from number j on; the first sum in ab, both closures in nb and gb; everything else is as it was when the call began (B). -/
structure KIn (B w : World) (ab lb nb gb n j : Nat) (A : Option Addr) (c : Nat) (ys a : List Nat) : Prop where
  var : VarAt w lb 37 (.slice A (n - j) c)
  in_ : InS B A (n - j) (ys.drop (32 * j))
  cap : n - j ≤ c
  le : j ≤ n
  sum : BArr w ab 34 a
  nxt : VarAt w nb 96 (takesK lb)
  led : VarAt w gb 97 (leadsK ab nb gb)
  below : Below B.heap.size B w
  pos : B.heap.size ≤ lb
  ne : ab ≠ lb ∧ nb ≠ lb ∧ gb ≠ lb
section
variable {B w w' : World} {ab lb nb gb n j c : Nat} {A : Option Addr} {ys a : List Nat}
theorem KIn.below_ (h : KIn B w ab lb nb gb n j A c ys a) (hb : Below w.heap.size w w') : KIn B w' ab lb nb gb n j A c ys a :=
  ⟨h.var.below hb, h.in_, h.cap, h.le, h.sum.below hb, h.nxt.below hb, h.led.below hb, below_on h.below (Nat.le_refl _) hb, h.pos, h.ne⟩
theorem KIn.lt (h : KIn B w ab lb nb gb n j A c ys a) : lb < w.heap.size ∧ ab < w.heap.size ∧ nb < w.heap.size ∧ gb < w.heap.size := ⟨h.var.lt, (Array.getElem?_eq_some_iff.1 h.sum).1, h.nxt.lt, h.led.lt⟩
/-- A row that was laid later is written into. -/
theorem KIn.setRow (h : KIn B w ab lb nb gb n j A c ys a) {k : Nat} (hk : B.heap.size ≤ k) (hne : lb ≠ k ∧ ab ≠ k ∧ nb ≠ k ∧ gb ≠ k) (cs : Array Value) : KIn B (w.setRow k cs) ab lb nb gb n j A c ys a :=
  ⟨h.var.setRow_other k hne.1 cs, h.in_, h.cap, h.le, (Go.setRow_other _ _ _ _ hne.2.1).trans h.sum, h.nxt.setRow_other k hne.2.2.1 cs, h.led.setRow_other k hne.2.2.2 cs, below_setRow h.below hk cs, h.pos, h.ne⟩
end

/-- What the closure answers, and how many are taken then. -/
def nxS (ys : List Nat) (n j : Nat) : List Nat := if j < n then nth ys j else zero32
def nxV (E : Addr) (n j : Nat) : Value := if j < n then .nilIface else missV E
def nxJ (n j : Nat) : Nat := if j < n then j + 1 else j
theorem nxS_length {ys : List Nat} {n : Nat} (hlen : ys.length = 32 * n) (j : Nat) : (nxS ys n j).length = 32 := by
  unfold nxS
  split
  · rename_i h; exact nth_length hlen h
  · rfl
theorem nxS_lt {ys : List Nat} (hy : ∀ x ∈ ys, x < 256) (n j : Nat) : ∀ x ∈ nxS ys n j, x < 256 := by
  unfold nxS
  split
  · exact nth_lt hy j
  · decide

section
variable {B w : World} {ab lb nb gb n j c : Nat} {A : Option Addr} {ys a : List Nat} {E : Addr}

set_option maxRecDepth 100000 in
set_option maxHeartbeats 2000000 in
theorem knext_none (h : KIn B w ab lb nb gb n j A c ys a) (hj : j = n) (hm : Miss B E) :
    Calls Tryd.prog 60 #[.pointer (some ⟨lb, 0, none⟩)] w fun e w' => e = .returned (.tuple #[sv zero32, missV E]) ∧ Below w.heap.size w w' := by
  subst hj
  have hc := h.var.cell
  rw [Nat.sub_self] at hc
  have e0 : (bvs zero32).toArray = #[.int .u8 0, .int .u8 0, .int .u8 0, .int .u8 0, .int .u8 0, .int .u8 0, .int .u8 0, .int .u8 0, .int .u8 0, .int .u8 0, .int .u8 0, .int .u8 0, .int .u8 0, .int .u8 0, .int .u8 0, .int .u8 0, .int .u8 0, .int .u8 0, .int .u8 0, .int .u8 0, .int .u8 0, .int .u8 0, .int .u8 0, .int .u8 0, .int .u8 0, .int .u8 0, .int .u8 0, .int .u8 0, .int .u8 0, .int .u8 0, .int .u8 0, .int .u8 0] := rfl
  have b1 := below_alloc w (.cells (bvs zero32).toArray 34)
  have f1 := BArr.new w 34 zero32
  rw [e0] at b1 f1
  clear e0
  have hc1 := (b1.cell h.var.lt).trans hc
  have m1 := (hm.below h.below).below b1
  have HM := Lib.hid m1
  have HB := Lib.hid (And.intro b1 f1)
  have HL := Lib.hid (show 0 ≠ w.heap.size from Nat.ne_of_lt (hm.below h.below).lt)
  clear b1 f1 h hm m1
  go_enter Tryd.func60, Tryd.ntmps60
  go_upto_region 1 with fail
  obtain ⟨w1, hw1⟩ : ∃ w1, w1 = w.alloc (.cells #[.int .u8 0, .int .u8 0, .int .u8 0, .int .u8 0, .int .u8 0, .int .u8 0, .int .u8 0, .int .u8 0, .int .u8 0, .int .u8 0, .int .u8 0, .int .u8 0, .int .u8 0, .int .u8 0, .int .u8 0, .int .u8 0, .int .u8 0, .int .u8 0, .int .u8 0, .int .u8 0, .int .u8 0, .int .u8 0, .int .u8 0, .int .u8 0, .int .u8 0, .int .u8 0, .int .u8 0, .int .u8 0, .int .u8 0, .int .u8 0, .int .u8 0, .int .u8 0] 34) := ⟨_, rfl⟩
  rw [← hw1] at HB HM hc1 ⊢
  clear hw1
  go_upto_region 2 with fail
  have hS : Miss w1.drew E := HM.out
  refine wp_region_held (S := fun W => Miss W E) (by kernel_rfl) ?_
  change wpAnyH _ _ _ _ _ _ _ _ w1.drew
  refine' wpAnyH_take (i := 0) (oi := _) (v := sv zero32) ?hi0 (by kernel_rfl) ?hf0 ?hr0 ?hQ0 ?hy0 hS ?rest0
  case hi0 => (simp only [List.getElem?_toArray, List.getElem?_cons_zero]; rfl)
  case hf0 => kernel_rfl
  case hr0 => kernel_rfl
  case hQ0 => exact fun _ _ _ h => h
  case hy0 =>
    refine Or.inl ⟨by rfl, ?_⟩
    intro W hSw
    go_simp
    rfl
  simp only [Act.put, List.setIfInBounds_toArray, List.set_cons_zero, List.set_cons_succ]
  refine' wpAnyH_take (i := 1) (oi := _) (v := missV E) ?hi1 (by kernel_rfl) ?hf1 ?hr1 ?hQ1 ?hy1 hS ?rest1
  case hi1 => (simp only [List.getElem?_toArray, List.getElem?_cons_zero, List.getElem?_cons_succ]; rfl)
  case hf1 => kernel_rfl
  case hr1 => kernel_rfl
  case hQ1 => exact fun _ _ _ h => h
  case hy1 =>
    refine Or.inl ⟨by rfl, ?_⟩
    intro W hSw
    unfold Miss at hSw
    go_simp
    try with_reducible rfl
  simp only [Act.put, List.setIfInBounds_toArray, List.set_cons_zero, List.set_cons_succ]
  refine wpAnyH_ready (rs := [2]) (by kernel_rfl) (by simp) ?_
  refine' AllReadyH.cons (o := _) ?hin (fun K1 hK1 => ?_) AllReadyH.nil
  case hin => (simp only [List.getElem?_toArray, List.getElem?_cons_zero, List.getElem?_cons_succ]; rfl)
  rw [if_pos (by rfl)]
  refine step_store_sum (.tmp 1) (.tmp 7) rfl w.heap.size rfl zero32 zero32 rfl rfl HB.out.2 rfl ?_
  have r1 : BArr (w1.drew.setRow w.heap.size (bvs zero32).toArray) w.heap.size 34 zero32 := (show BArr w1.drew w.heap.size 34 zero32 from HB.out.2).setRow zero32
  have b1 : Below w.heap.size w (w1.drew.setRow w.heap.size (bvs zero32).toArray) := below_setRow HB.out.1.drew (Nat.le_refl _) _
  have hS1 : Miss (w1.drew.setRow w.heap.size (bvs zero32).toArray) E := by
    have e := HL.out
    unfold Miss World.cell? at hS ⊢
    rw [Go.setRow_other _ _ _ _ e]
    exact hS
  obtain ⟨w2, hw2⟩ : ∃ w2, w2 = w1.drew.setRow w.heap.size (bvs zero32).toArray := ⟨_, rfl⟩
  rw [← hw2] at r1 b1 hS1 ⊢
  clear hw2
  refine hK1.out _ _ hS1 (fun _ => ?_)
  clear hK1 K1
  refine' wpAnyH_take (i := 3) (oi := _) (v := _) ?hi3 (by kernel_rfl) ?hf3 ?hr3 ?hQ3 ?hy3 hS1 ?rest3
  case hi3 => (simp only [List.getElem?_toArray, List.getElem?_cons_zero, List.getElem?_cons_succ]; rfl)
  case hf3 => kernel_rfl
  case hr3 => kernel_rfl
  case hQ3 => exact fun _ _ _ h => h
  case hy3 =>
    refine Or.inl ⟨by rfl, ?_⟩
    intro W hSw
    go_simp
    try with_reducible rfl
  simp only [Act.put, List.setIfInBounds_toArray, List.set_cons_zero, List.set_cons_succ]
  refine wpAnyH_done (by kernel_rfl) ?_ _
  go_wp2
  refine bodyPost_ret_by (results_cell_tmp (p := 1) (q := 2) (ty := 34) (by kernel_rfl) _ _ ⟨w.heap.size, 0, none⟩ (sv zero32) rfl (run_load_sum w2 _ zero32 rfl r1.at_)) rfl ?_
  exact ⟨rfl, b1⟩

set_option maxRecDepth 100000 in
set_option maxHeartbeats 2000000 in
theorem knext_some (h : KIn B w ab lb nb gb n j A c ys a) (hj : j < n) (hn : n ≤ 1000000) :
    Calls Tryd.prog 60 #[.pointer (some ⟨lb, 0, none⟩)] w fun e w' => e = .returned (.tuple #[sv (nth ys j), .nilIface]) ∧ (∃ A' c', KIn B w' ab lb nb gb n (j + 1) A' c' ys a) ∧ But (· = lb) w w' := by
  obtain ⟨p, hp⟩ : ∃ p, n - j = p := ⟨_, rfl⟩
  have hp0 : 0 < p := by omega
  have hin := h.in_
  rw [hp] at hin
  obtain ⟨ad, hA, hl, hat⟩ := hin.at_ hp0
  subst hA
  rw [Nat.zero_mul, add_zero', nth_drop, Nat.add_zero] at hat
  rw [nth_drop, Nat.add_zero] at hl
  obtain ⟨s, hs⟩ : ∃ s, nth ys j = s := ⟨_, rfl⟩
  rw [hs] at hat hl ⊢
  have hcap := h.cap
  rw [hp] at hcap
  obtain ⟨A', hcut, hA'⟩ := cut_nameS (A := some ad) (n := p) (c := c) (k := 1) (by omega)
  have hcut1 : ∀ W : World, (Instr.slice 37 (.slice (some ad) p c) (some (.int .i64 1)) none none).run Tryd.prog W = .ok (.slice A' (p - 1) (c - 1)) W := hcut
  have hin' : InS B A' (p - 1) (ys.drop (32 * (j + 1))) := by
    rw [hA', show 32 * (j + 1) = 32 * j + 32 * 1 by omega, ← List.drop_drop]
    split
    · rename_i e
      obtain rfl : p = 1 := by omega
      have := hin.drop_ 1 (Nat.le_refl _)
      rw [Nat.sub_self] at this ⊢
      exact ⟨this.len, by rw [List.eq_nil_of_length_eq_zero (l := List.drop (32 * 1) (ys.drop (32 * j))) (by rw [this.len])]; exact Rd.nil _ _⟩
    · exact hin.drop_ 1 (by omega)
  have hc := h.var.cell
  rw [hp] at hc
  have e0 : (bvs zero32).toArray = #[.int .u8 0, .int .u8 0, .int .u8 0, .int .u8 0, .int .u8 0, .int .u8 0, .int .u8 0, .int .u8 0, .int .u8 0, .int .u8 0, .int .u8 0, .int .u8 0, .int .u8 0, .int .u8 0, .int .u8 0, .int .u8 0, .int .u8 0, .int .u8 0, .int .u8 0, .int .u8 0, .int .u8 0, .int .u8 0, .int .u8 0, .int .u8 0, .int .u8 0, .int .u8 0, .int .u8 0, .int .u8 0, .int .u8 0, .int .u8 0, .int .u8 0, .int .u8 0] := rfl
  have f1 := BArr.new w 34 zero32
  have b1 := below_alloc w (.cells (bvs zero32).toArray 34)
  have s1 : (w.alloc (.cells (bvs zero32).toArray 34)).heap.size = w.heap.size + 1 := by simp
  rw [e0] at f1 b1 s1
  clear e0
  have hc1 := (b1.cell h.var.lt).trans hc
  have hp1 : ((p : Int) == 0) = false := by simp; omega
  have hp2 : (0 : Int) < (p : Int) := by omega
  have HAt := Lib.hid ((hat.below h.below).below b1)
  have HF := Lib.hid (And.intro f1 (And.intro b1 s1))
  have HV := Lib.hid (h.var.below b1)
  have HH := Lib.hid (And.intro h (And.intro hin' hs))
  have HN := Lib.hid (And.intro hp (And.intro hj (And.intro hcap hn)))
  clear f1 b1 s1 hat hcut hA' hin' hin h hs hp hj hcap hn hc
  go_enter Tryd.func60, Tryd.ntmps60
  go_upto_region 1 with fail
  obtain ⟨w1, hw1⟩ : ∃ w1, w1 = w.alloc (.cells #[.int .u8 0, .int .u8 0, .int .u8 0, .int .u8 0, .int .u8 0, .int .u8 0, .int .u8 0, .int .u8 0, .int .u8 0, .int .u8 0, .int .u8 0, .int .u8 0, .int .u8 0, .int .u8 0, .int .u8 0, .int .u8 0, .int .u8 0, .int .u8 0, .int .u8 0, .int .u8 0, .int .u8 0, .int .u8 0, .int .u8 0, .int .u8 0, .int .u8 0, .int .u8 0, .int .u8 0, .int .u8 0, .int .u8 0, .int .u8 0, .int .u8 0, .int .u8 0] 34) := ⟨_, rfl⟩
  rw [← hw1] at HF HAt HV hc1 ⊢
  clear hw1
  have HZ32 := Lib.hid (show zero32.length = 32 from rfl)
  go_upto_region 4 with (first | with_reducible refine wpList_load_sum rfl (.tmp 10) rfl ad rfl s hl HAt.out ?_ | with_reducible refine wpList_store_new w1 _ rfl rfl (.tmp 3) (.tmp 11) rfl rfl s hl rfl ?_)
  have b2 := below_alloc w1 (.cells (bvs s).toArray 34)
  have g2 := BArr.new w1 34 s
  have V2 := HV.out.below b2
  have F2 := HF.out.1.below b2
  have s2 : (w1.alloc (.cells (bvs s).toArray 34)).heap.size = w1.heap.size + 1 := by simp
  have hc2 := (b2.cell HV.out.lt).trans hc1
  have hf2 := V2.free
  obtain ⟨w2, hw2⟩ : ∃ w2, w2 = w1.alloc (.cells (bvs s).toArray 34) := ⟨_, rfl⟩
  rw [← hw2] at b2 g2 V2 F2 s2 hc2 hf2 ⊢
  clear hw2
  have HG := Lib.hid (And.intro b2 (And.intro g2 (And.intro V2 (And.intro F2 s2))))
  clear b2 g2 V2 F2 s2
  go_upto_region 5 with fail
  obtain ⟨w3, hw3⟩ : ∃ w3, w3 = w2.setCell ⟨lb, 0, none⟩ (.slice A' (p - 1) (c - 1)) := ⟨_, rfl⟩
  rw [← hw3]
  have hpb : lb < w.heap.size := HH.out.1.var.lt
  have g3 : BArr w3 w1.heap.size 34 s := by rw [hw3]; exact HG.out.2.1.other _ _ (by have := HF.out.2.2; simp only; omega)
  have f3 : BArr w3 w.heap.size 34 zero32 := by rw [hw3]; exact HG.out.2.2.2.1.other _ _ (by simp only; omega)
  have v3 : VarAt w3 lb 37 (.slice A' (p - 1) (c - 1)) := by rw [hw3]; exact HG.out.2.2.1.set _
  have HK := Lib.hid (And.intro v3 hw3)
  have g3' := Lib.hid g3.at_
  clear v3 hw3 g3
  go_wp2_with (first | with_reducible refine wpList_load_sum rfl (.tmp 3) rfl ⟨w1.heap.size, 0, none⟩ rfl s hl g3'.out ?_ | with_reducible refine wpList_store_sum rfl (.tmp 1) (.tmp 14) rfl w.heap.size rfl zero32 s HZ32 hl f3 rfl ?_)
  have r4 : BArr (w3.setRow w.heap.size (bvs s).toArray) w.heap.size 34 s := f3.setRow s
  refine bodyPost_ret_by (results_cell_tmp (p := 1) (q := 2) (ty := 34) (by kernel_rfl) _ _ ⟨w.heap.size, 0, none⟩ (sv s) rfl (run_load_sum _ _ s hl r4.at_)) rfl ?_
  have bu : But (· = lb) w w3 := by rw [HK.out.2]; exact ((But.of_below HF.out.2.1).trans (But.of_below HG.out.1)).set 0 _ (fun _ => rfl)
  have HB := HH.out.1
  have hlts := HB.lt
  have hne := HB.ne
  have bu4 : But (· = lb) w (w3.setRow w.heap.size (bvs s).toArray) := ⟨bu.os, bu.tape, bu.output, by rw [setRow_size]; exact bu.size, fun b hb hne => (Go.setRow_other _ _ _ _ (by omega)).trans (bu.block b hb hne)⟩
  refine ⟨rfl, ⟨A', c - 1, ?_⟩, bu4⟩
  · have hpos := HB.pos
    have hnn := HN.out
    refine ⟨?_, ?_, ?_, by omega, ?_, ?_, ?_, ?_, hpos, hne⟩
    · rw [show n - (j + 1) = p - 1 by omega]
      exact HK.out.1.setRow_other _ (by omega) _
    · rw [show n - (j + 1) = p - 1 by omega]; exact HH.out.2.1
    · omega
    · exact (bu4.block _ hlts.2.1 hne.1).trans HB.sum
    · exact HB.nxt.but bu4 hne.2.1
    · exact HB.led.but bu4 hne.2.2
    · exact below_setRow (HB.below.trans (bu.below HB.below.size (fun b e => by rw [e]; exact hpos))) (by have := HB.below.size; omega) _

/-- Both ways in one. -/
theorem knext_any (h : KIn B w ab lb nb gb n j A c ys a) (hn : n ≤ 1000000) (hm : Miss B E) :
    Calls Tryd.prog 60 #[.pointer (some ⟨lb, 0, none⟩)] w fun e w' => e = .returned (.tuple #[sv (nxS ys n j), nxV E n j]) ∧ (∃ A' c', KIn B w' ab lb nb gb n (nxJ n j) A' c' ys a) ∧ But (· = lb) w w' := by
  unfold nxS nxV nxJ
  by_cases hj : j < n
  · rw [if_pos hj, if_pos hj, if_pos hj]
    exact knext_some h hj hn
  · rw [if_neg hj, if_neg hj, if_neg hj]
    exact (knext_none h (by have := h.le; omega) hm).mono fun e w' ⟨he, hb⟩ => ⟨he, ⟨A, c, h.below_ hb⟩, But.of_below hb⟩

end

end Go.Proofs.YtllohbgejjbagaaDoor

/-
  '[2]api.Sum{x, y}', and what is done with such a variable.
-/
namespace Go.Proofs.YtllohbgejjbagaaDoor
open Go.RowKit

theorem infoPair : (Tryd.prog.info? 75).map (fun i => (i.zero, i.size, i.bytes)) = some (some (.agg (Array.replicate 64 (.int .u8 0))), 64, 64) := by kernel_rfl

set_option maxRecDepth 100000 in
theorem run_build_pair (x y : List Nat) (hx : x.length = 32) (hy : y.length = 32) (w : World) : (Instr.build 75 #[(0, sv x), (1, sv y)]).run Tryd.prog w = .ok (sv (x ++ y)) w := by
  obtain ⟨i0, hi, hz0, hz1, _⟩ := info_parts infoSum
  obtain ⟨j0, hj, hy0, hy1, _⟩ := info_parts infoPair
  refine run_build w _ _ _ ?_
  unfold Program.built
  simp only [hj, Tryd.underlying75, hy0, hi, hz1]
  have := fill_all [x, y] [] (List.replicate 64 (.int .u8 0)) 0 (by intro s hs; simp at hs; rcases hs with rfl | rfl; exact hx; exact hy) (by simp) rfl
  rw [List.nil_append, List.nil_append, show [x, y].flatten = x ++ y by simp, List.toArray_replicate] at this
  exact this

theorem run_build_op {o : Oper} {a : Act} (u v : Operand) (ho : o.op = .build 75 #[(0, u), (1, v)]) (x y : List Nat) (hu : a.eval u = sv x) (hv : a.eval v = sv y) (hx : x.length = 32) (hy : y.length = 32) (w : World) :
    (execOp a.eval o).run Tryd.prog w = .ok (.value (sv (x ++ y))) w := by
  have hp : (#[((0 : Nat), u), (1, v)].map fun ((i, x) : Nat × Operand) => (i, a.eval x)) = #[(0, sv x), (1, sv y)] := by simp [hu, hv]
  unfold execOp
  simp only [ho, hp, Sem.run_bind, Sem.run_pure, Result.andThen_ok, run_build_pair x y hx hy w]

theorem wpList_build_pair {ops : Array Oper} {rest : List Oper} {o : Oper} {a : Act} {w : World} {Q : Exit → Act → World → Prop} (hgd : o.guard = none) (u v : Operand) (ho : o.op = .build 75 #[(0, u), (1, v)])
    (x y : List Nat) (hu : a.eval u = sv x) (hv : a.eval v = sv y) (hx : x.length = 32) (hy : y.length = 32)
    (h : wpList Tryd.prog ops Q rest (a.put o.dst (sv (x ++ y))) w) : wpList Tryd.prog ops Q (o :: rest) a w := by
  refine wpList_plain hgd fun K hK => ?_
  unfold Oper.wp
  rw [run_build_op u v ho x y hu hv hx hy]
  exact hK _ _ h

theorem yields_build_pair {ops : Array Oper} {S : World → Prop} {o : Oper} {a : Act} (hw : Region.wanted o (yielded ops a.tmps) = true) (u v : Operand) (ho : o.op = .build 75 #[(0, u), (1, v)])
    (x y : List Nat) (hu : a.eval u = sv x) (hv : a.eval v = sv y) (hx : x.length = 32) (hy : y.length = 32) : YieldsIf Tryd.prog ops S o (sv (x ++ y)) a :=
  Or.inl ⟨hw, fun w _ => run_build_op u v ho x y hu hv hx hy w⟩

theorem yields_pair {ops : Array Oper} {S : World → Prop} {o : Oper} {a : Act} (hw : Region.wanted o (yielded ops a.tmps) = true) (x : Operand) (ho : o.op = .load 75 x)
    (ad : Addr) (hx : a.eval x = .pointer (some ad)) (s : List Nat) (hl : s.length = 64) (hc : ∀ w, S w → At w ad s) : YieldsIf Tryd.prog ops S o (sv s) a := by
  refine Or.inl ⟨hw, fun w hS => ?_⟩
  unfold execOp
  simp only [ho, hx, Instr.loadAt, Instr.sureAddr, Sem.run_bind, Sem.run_pure, Result.andThen_ok, run_load_pair w ad s hl (hc w hS)]

theorem step_store_pair {o : Oper} {a : Act} {w : World} {K : Act → World → Prop} {Q : Exit → Act → World → Prop} (x y : Operand) (ho : o.op = .store 75 x y)
    (g : Nat) (hx : a.eval x = .pointer (some ⟨g, 0, none⟩)) {T : TypeId} (xs ys : List Nat) (hl : xs.length = 64) (hl' : ys.length = 64) (hc : BArr w g T xs) (hy : a.eval y = sv ys)
    (h : K (a.put o.dst undef) (w.setRow g (bvs ys).toArray)) : Oper.wp Tryd.prog o a w K Q := by
  have hr := run_storeVar_row (P := Tryd.prog) w g T 75 (bvs xs).toArray (bvs ys).toArray hc (by rw [List.size_toArray, bvs_length, hl']; exact sizePair) (by rw [List.size_toArray, bvs_length, hl, List.size_toArray, bvs_length, hl']) (all_oneCell_toArray (bvs_oneCell ys))
  unfold Oper.wp execOp
  simp only [ho, hx, hy, sv, Instr.storeAt, Instr.sureAddr, Sem.run_bind, Sem.run_pure, Result.andThen_ok, hr]
  exact h

/-- The two halves of such a variable. -/
theorem BArr.first {w : World} {g : Nat} {T : TypeId} {x y : List Nat} (h : BArr w g T (x ++ y)) : At w ⟨g, 0, none⟩ x := fun j v hv => h.at_ j v (by rw [List.getElem?_append_left (List.getElem?_eq_some_iff.1 hv).1]; exact hv)
theorem BArr.second {w : World} {g : Nat} {T : TypeId} {x y : List Nat} (h : BArr w g T (x ++ y)) (hx : x.length = 32) : At w ⟨g, 32, none⟩ y := fun j v hv => by
  have := h.at_ (32 + j) v (by rw [List.getElem?_append_right (by omega), hx, show 32 + j - 32 = j by omega]; exact hv)
  have ha : ∀ o k : Nat, (⟨g, o, none⟩ : Addr).add k = ⟨g, o + k, none⟩ := fun o k => by unfold Addr.add; split <;> simp_all
  rw [ha] at this ⊢
  rw [Nat.zero_add] at this
  exact this

end Go.Proofs.YtllohbgejjbagaaDoor

/-
  links.ends' closure that calls itself: what the sums of a link lead to, and whether one is missing.
-/
namespace Go.Proofs.YtllohbgejjbagaaDoor
open Go.RowKit

/-- The world in which lead begins. -/
structure KLeadIn (w w1 : World) : Prop where
  res : BArr w1 w.heap.size 75 zero64
  below : Below w.heap.size w w1
  size : w1.heap.size = w.heap.size + 1
theorem kleadIn_of (w : World) : KLeadIn w (w.alloc (.cells (bvs zero64).toArray 75)) := ⟨BArr.new _ _ _, below_alloc w _, by simp⟩

/-- What lead answers: two sums and an error; and how many are taken then. -/
def Led (B w : World) (ab lb nb gb n : Nat) (ys a P Q : List Nat) (ev : Value) (j : Nat) (e : Ending) (w' : World) : Prop :=
  e = .returned (.tuple #[sv (P ++ Q), ev]) ∧ (∃ A' c', KIn B w' ab lb nb gb n j A' c' ys a) ∧ But (· = lb) w w'

section
variable {B w : World} {ab lb nb gb n j c : Nat} {A : Option Addr} {ys a : List Nat} {E : Addr} {from_ size : Nat} {edge : Bool}

set_option maxRecDepth 100000 in
set_option maxHeartbeats 4000000 in
theorem klead_edge (h : KIn B w ab lb nb gb n j A c ys a) (hl : a.length = 32) (hfs : from_ = size) :
    Calls Tryd.prog 61 #[.int .u64 (from_ : Int), .int .u64 (size : Int), .bool true, .pointer (some ⟨ab, 0, none⟩), .pointer (some ⟨nb, 0, none⟩), .pointer (some ⟨gb, 0, none⟩)] w (Led B w ab lb nb gb n ys a a a .nilIface j) := by
  subst hfs
  have e0 : (bvs zero64).toArray = #[.int .u8 0, .int .u8 0, .int .u8 0, .int .u8 0, .int .u8 0, .int .u8 0, .int .u8 0, .int .u8 0, .int .u8 0, .int .u8 0, .int .u8 0, .int .u8 0, .int .u8 0, .int .u8 0, .int .u8 0, .int .u8 0, .int .u8 0, .int .u8 0, .int .u8 0, .int .u8 0, .int .u8 0, .int .u8 0, .int .u8 0, .int .u8 0, .int .u8 0, .int .u8 0, .int .u8 0, .int .u8 0, .int .u8 0, .int .u8 0, .int .u8 0, .int .u8 0, .int .u8 0, .int .u8 0, .int .u8 0, .int .u8 0, .int .u8 0, .int .u8 0, .int .u8 0, .int .u8 0, .int .u8 0, .int .u8 0, .int .u8 0, .int .u8 0, .int .u8 0, .int .u8 0, .int .u8 0, .int .u8 0, .int .u8 0, .int .u8 0, .int .u8 0, .int .u8 0, .int .u8 0, .int .u8 0, .int .u8 0, .int .u8 0, .int .u8 0, .int .u8 0, .int .u8 0, .int .u8 0, .int .u8 0, .int .u8 0, .int .u8 0, .int .u8 0] := rfl
  have h1 := kleadIn_of w
  rw [e0] at h1
  clear e0
  obtain ⟨w1, hw1⟩ : ∃ w1, w1 = w.alloc (.cells #[.int .u8 0, .int .u8 0, .int .u8 0, .int .u8 0, .int .u8 0, .int .u8 0, .int .u8 0, .int .u8 0, .int .u8 0, .int .u8 0, .int .u8 0, .int .u8 0, .int .u8 0, .int .u8 0, .int .u8 0, .int .u8 0, .int .u8 0, .int .u8 0, .int .u8 0, .int .u8 0, .int .u8 0, .int .u8 0, .int .u8 0, .int .u8 0, .int .u8 0, .int .u8 0, .int .u8 0, .int .u8 0, .int .u8 0, .int .u8 0, .int .u8 0, .int .u8 0, .int .u8 0, .int .u8 0, .int .u8 0, .int .u8 0, .int .u8 0, .int .u8 0, .int .u8 0, .int .u8 0, .int .u8 0, .int .u8 0, .int .u8 0, .int .u8 0, .int .u8 0, .int .u8 0, .int .u8 0, .int .u8 0, .int .u8 0, .int .u8 0, .int .u8 0, .int .u8 0, .int .u8 0, .int .u8 0, .int .u8 0, .int .u8 0, .int .u8 0, .int .u8 0, .int .u8 0, .int .u8 0, .int .u8 0, .int .u8 0, .int .u8 0, .int .u8 0] 75) := ⟨_, rfl⟩
  rw [← hw1] at h1
  have H1 := Lib.hid h1
  have HW := Lib.hid hw1
  have HP := Lib.hid h
  have HLT := Lib.hid (And.intro h.lt (And.intro h1.size h1.below.size))
  have HZ := Lib.hid (show zero64.length = 64 from rfl)
  have hA := Lib.hid (h.below_ h1.below).sum.at_
  have hf : ((from_ : Int) == (from_ : Int)) = true := by simp
  have R1 := h1.res
  clear h h1 hw1
  go_enter Tryd.func61, Tryd.ntmps61
  go_upto_region 1 with fail
  rw [← HW.out]
  have haa : (a ++ a).length = 64 := by rw [List.length_append]; omega
  go_upto_region 3 with fail
  refine wp_region_lit ?_
  refine wpList_load_sum rfl (.tmp 3) rfl ⟨ab, 0, none⟩ rfl a hl hA.out ?_
  refine wpList_load_sum rfl (.tmp 3) rfl ⟨ab, 0, none⟩ rfl a hl hA.out ?_
  refine wpList_build_pair rfl (.tmp 24) (.tmp 25) rfl a a rfl rfl hl hl ?_
  refine wpList_store_pair rfl (.tmp 9) (.tmp 26) rfl w.heap.size rfl zero64 (a ++ a) HZ.out haa R1 rfl ?_
  simp only [Act.put, List.setIfInBounds_toArray, List.set_cons_zero, List.set_cons_succ]
  go_wp2_with fail
  have r4 : BArr (w1.setRow w.heap.size (bvs (a ++ a)).toArray) w.heap.size 75 (a ++ a) := R1.setRow _
  refine bodyPost_ret_by (results_cell_tmp (p := 9) (q := 10) (ty := 75) (by kernel_rfl) _ _ ⟨w.heap.size, 0, none⟩ (sv (a ++ a)) rfl (run_load_pair _ _ _ haa r4.at_)) rfl ?_
  have hlt := HLT.out
  have hb0 := HP.out.below.size
  exact ⟨rfl, ⟨A, c, (HP.out.below_ H1.out.below).setRow (by omega) ⟨by omega, by omega, by omega, by omega⟩ _⟩, But.of_below (below_setRow H1.out.below (Nat.le_refl _) _)⟩

set_option maxRecDepth 100000 in
set_option maxHeartbeats 4000000 in
theorem klead_root {s : List Nat} {ev : Value} {j' : Nat} (h : KIn B w ab lb nb gb n j A c ys a) (hsl : s.length = 32) (hfs : from_ = size)
    (cn : ∀ w' : World, KIn B w' ab lb nb gb n j A c ys a → Calls Tryd.prog 60 #[.pointer (some ⟨lb, 0, none⟩)] w' fun e w'' => e = .returned (.tuple #[sv s, ev]) ∧ (∃ A' c', KIn B w'' ab lb nb gb n j' A' c' ys a) ∧ But (· = lb) w' w'') :
    Calls Tryd.prog 61 #[.int .u64 (from_ : Int), .int .u64 (size : Int), .bool false, .pointer (some ⟨ab, 0, none⟩), .pointer (some ⟨nb, 0, none⟩), .pointer (some ⟨gb, 0, none⟩)] w (Led B w ab lb nb gb n ys a s s ev j') := by
  subst hfs
  have e0 : (bvs zero64).toArray = #[.int .u8 0, .int .u8 0, .int .u8 0, .int .u8 0, .int .u8 0, .int .u8 0, .int .u8 0, .int .u8 0, .int .u8 0, .int .u8 0, .int .u8 0, .int .u8 0, .int .u8 0, .int .u8 0, .int .u8 0, .int .u8 0, .int .u8 0, .int .u8 0, .int .u8 0, .int .u8 0, .int .u8 0, .int .u8 0, .int .u8 0, .int .u8 0, .int .u8 0, .int .u8 0, .int .u8 0, .int .u8 0, .int .u8 0, .int .u8 0, .int .u8 0, .int .u8 0, .int .u8 0, .int .u8 0, .int .u8 0, .int .u8 0, .int .u8 0, .int .u8 0, .int .u8 0, .int .u8 0, .int .u8 0, .int .u8 0, .int .u8 0, .int .u8 0, .int .u8 0, .int .u8 0, .int .u8 0, .int .u8 0, .int .u8 0, .int .u8 0, .int .u8 0, .int .u8 0, .int .u8 0, .int .u8 0, .int .u8 0, .int .u8 0, .int .u8 0, .int .u8 0, .int .u8 0, .int .u8 0, .int .u8 0, .int .u8 0, .int .u8 0, .int .u8 0] := rfl
  have h1 := kleadIn_of w
  rw [e0] at h1
  clear e0
  obtain ⟨w1, hw1⟩ : ∃ w1, w1 = w.alloc (.cells #[.int .u8 0, .int .u8 0, .int .u8 0, .int .u8 0, .int .u8 0, .int .u8 0, .int .u8 0, .int .u8 0, .int .u8 0, .int .u8 0, .int .u8 0, .int .u8 0, .int .u8 0, .int .u8 0, .int .u8 0, .int .u8 0, .int .u8 0, .int .u8 0, .int .u8 0, .int .u8 0, .int .u8 0, .int .u8 0, .int .u8 0, .int .u8 0, .int .u8 0, .int .u8 0, .int .u8 0, .int .u8 0, .int .u8 0, .int .u8 0, .int .u8 0, .int .u8 0, .int .u8 0, .int .u8 0, .int .u8 0, .int .u8 0, .int .u8 0, .int .u8 0, .int .u8 0, .int .u8 0, .int .u8 0, .int .u8 0, .int .u8 0, .int .u8 0, .int .u8 0, .int .u8 0, .int .u8 0, .int .u8 0, .int .u8 0, .int .u8 0, .int .u8 0, .int .u8 0, .int .u8 0, .int .u8 0, .int .u8 0, .int .u8 0, .int .u8 0, .int .u8 0, .int .u8 0, .int .u8 0, .int .u8 0, .int .u8 0, .int .u8 0, .int .u8 0] 75) := ⟨_, rfl⟩
  rw [← hw1] at h1
  have H1 := Lib.hid h1
  have HW := Lib.hid hw1
  have HP := Lib.hid h
  have HLT := Lib.hid (And.intro h.lt (And.intro h1.size h1.below.size))
  have HZ := Lib.hid (show zero64.length = 64 from rfl)
  have n1 := (h.below_ h1.below).nxt.cell
  have HC := Lib.hid (cn w1 (h.below_ h1.below))
  have hf : ((from_ : Int) == (from_ : Int)) = true := by simp
  clear h h1 hw1 cn
  unfold takesK at n1
  go_enter Tryd.func61, Tryd.ntmps61
  go_upto_region 1 with fail
  rw [← HW.out]
  go_wp2_with fail
  refine HC.out.mono ?_
  rintro e w2 ⟨rfl, hk2, hb2⟩
  have HK2 := Lib.hid (And.intro hk2 hb2)
  clear hk2 hb2
  go_upto_region 5 with (with_reducible refine wpList_store_new w2 _ rfl rfl (.tmp 11) (.tmp 30) rfl rfl s hsl rfl ?_)
  have b3 := below_alloc w2 (.cells (bvs s).toArray 34)
  have g3 := BArr.new w2 34 s
  have r2 : BArr w2 w.heap.size 75 zero64 := (HK2.out.2.block _ H1.out.res.lt (by have := HLT.out; omega)).trans H1.out.res
  obtain ⟨w3, hw3⟩ : ∃ w3, w3 = w2.alloc (.cells (bvs s).toArray 34) := ⟨_, rfl⟩
  rw [← hw3] at b3 g3 ⊢
  have R3 := r2.below b3
  have G3 := Lib.hid g3.at_
  have B3 := Lib.hid b3
  have hss : (s ++ s).length = 64 := by rw [List.length_append]; omega
  clear b3 g3 r2 hw3
  refine wp_region_lit ?_
  refine wpList_load_sum rfl (.tmp 11) rfl ⟨w2.heap.size, 0, none⟩ rfl s hsl G3.out ?_
  refine wpList_load_sum rfl (.tmp 11) rfl ⟨w2.heap.size, 0, none⟩ rfl s hsl G3.out ?_
  refine wpList_build_pair rfl (.tmp 32) (.tmp 33) rfl s s rfl rfl hsl hsl ?_
  refine wpList_plain rfl fun K hK => ?_
  go_simp
  refine hK _ _ ?_
  clear hK K
  refine wpList_store_pair rfl (.tmp 9) (.tmp 34) rfl w.heap.size rfl zero64 (s ++ s) HZ.out hss R3 rfl ?_
  simp only [Act.put]
  go_wp2_with fail
  have r4 : BArr (w3.setRow w.heap.size (bvs (s ++ s)).toArray) w.heap.size 75 (s ++ s) := R3.setRow _
  refine bodyPost_ret_by (results_cell_tmp (p := 9) (q := 10) (ty := 75) (by kernel_rfl) _ _ ⟨w.heap.size, 0, none⟩ (sv (s ++ s)) rfl (run_load_pair _ _ _ hss r4.at_)) rfl ?_
  have hlt := HLT.out
  have hb0 := HP.out.below.size
  obtain ⟨A', c', hk2⟩ := HK2.out.1
  have bu : But (· = lb) w w3 := ((But.of_below H1.out.below).trans HK2.out.2).trans (But.of_below B3.out)
  exact ⟨rfl, ⟨A', c', (hk2.below_ B3.out).setRow (by omega) ⟨by omega, by omega, by omega, by omega⟩ _⟩, ⟨bu.os, bu.tape, bu.output, by rw [setRow_size]; exact bu.size, fun b hb hne => (Go.setRow_other _ _ _ _ (by omega)).trans (bu.block b hb hne)⟩⟩

set_option maxRecDepth 100000 in
set_option maxHeartbeats 4000000 in
theorem klead_low_fall {P Q : List Nat} {j' : Nat} (h : KIn B w ab lb nb gb n j A c ys a) (hPl : P.length = 32) (hQl : Q.length = 32) (h2 : 2 ≤ size) (hz : size < 18446744073709551616) (hfs : from_ < size) (ha : from_ ≤ cutN size)
    (ih : ∀ w' : World, KIn B w' ab lb nb gb n j A c ys a → Calls Tryd.prog 61 #[.int .u64 (from_ : Nat), .int .u64 ((cutN size) : Nat), .bool edge, .pointer (some ⟨ab, 0, none⟩), .pointer (some ⟨nb, 0, none⟩), .pointer (some ⟨gb, 0, none⟩)] w' (Led B w' ab lb nb gb n ys a P Q (missV E) j'))
 :
    Calls Tryd.prog 61 #[.int .u64 (from_ : Int), .int .u64 (size : Int), .bool edge, .pointer (some ⟨ab, 0, none⟩), .pointer (some ⟨nb, 0, none⟩), .pointer (some ⟨gb, 0, none⟩)] w (Led B w ab lb nb gb n ys a P Q (missV E) j') := by
  have e0 : (bvs zero64).toArray = #[.int .u8 0, .int .u8 0, .int .u8 0, .int .u8 0, .int .u8 0, .int .u8 0, .int .u8 0, .int .u8 0, .int .u8 0, .int .u8 0, .int .u8 0, .int .u8 0, .int .u8 0, .int .u8 0, .int .u8 0, .int .u8 0, .int .u8 0, .int .u8 0, .int .u8 0, .int .u8 0, .int .u8 0, .int .u8 0, .int .u8 0, .int .u8 0, .int .u8 0, .int .u8 0, .int .u8 0, .int .u8 0, .int .u8 0, .int .u8 0, .int .u8 0, .int .u8 0, .int .u8 0, .int .u8 0, .int .u8 0, .int .u8 0, .int .u8 0, .int .u8 0, .int .u8 0, .int .u8 0, .int .u8 0, .int .u8 0, .int .u8 0, .int .u8 0, .int .u8 0, .int .u8 0, .int .u8 0, .int .u8 0, .int .u8 0, .int .u8 0, .int .u8 0, .int .u8 0, .int .u8 0, .int .u8 0, .int .u8 0, .int .u8 0, .int .u8 0, .int .u8 0, .int .u8 0, .int .u8 0, .int .u8 0, .int .u8 0, .int .u8 0, .int .u8 0] := rfl
  have h1 := kleadIn_of w
  rw [e0] at h1
  clear e0
  obtain ⟨w1, hw1⟩ : ∃ w1, w1 = w.alloc (.cells #[.int .u8 0, .int .u8 0, .int .u8 0, .int .u8 0, .int .u8 0, .int .u8 0, .int .u8 0, .int .u8 0, .int .u8 0, .int .u8 0, .int .u8 0, .int .u8 0, .int .u8 0, .int .u8 0, .int .u8 0, .int .u8 0, .int .u8 0, .int .u8 0, .int .u8 0, .int .u8 0, .int .u8 0, .int .u8 0, .int .u8 0, .int .u8 0, .int .u8 0, .int .u8 0, .int .u8 0, .int .u8 0, .int .u8 0, .int .u8 0, .int .u8 0, .int .u8 0, .int .u8 0, .int .u8 0, .int .u8 0, .int .u8 0, .int .u8 0, .int .u8 0, .int .u8 0, .int .u8 0, .int .u8 0, .int .u8 0, .int .u8 0, .int .u8 0, .int .u8 0, .int .u8 0, .int .u8 0, .int .u8 0, .int .u8 0, .int .u8 0, .int .u8 0, .int .u8 0, .int .u8 0, .int .u8 0, .int .u8 0, .int .u8 0, .int .u8 0, .int .u8 0, .int .u8 0, .int .u8 0, .int .u8 0, .int .u8 0, .int .u8 0, .int .u8 0] 75) := ⟨_, rfl⟩
  rw [← hw1] at h1
  have H1 := Lib.hid h1
  have HW := Lib.hid hw1
  have HP := Lib.hid h
  have HLT := Lib.hid (And.intro h.lt (And.intro h1.size h1.below.size))
  have HZ := Lib.hid (show zero64.length = 64 from rfl)
  have hcl := cutN_lt h2
  have hcp := cutN_pos size
  obtain ⟨k, hk0⟩ : ∃ k, cutN size = k := ⟨_, rfl⟩
  rw [hk0] at hcl hcp ha ih
  have ns : ((from_ : Int) == (size : Int)) = false := by simp; omega
  have hle : (from_ : Int) ≤ (k : Int) := by omega
  have CM := Lib.hid (kleft_any size w1 h2 hz)
  rw [hk0] at CM
  have K1 := h.below_ h1.below
  have l1 := K1.led.cell
  unfold leadsK at l1
  have IH := Lib.hid (ih w1 K1)
  have hPQ : (P ++ Q).length = 64 := by rw [List.length_append]; omega
  clear h h1 hw1 ih K1 hk0 hcl hcp h2 hz hfs ha hPl hQl
  go_enter Tryd.func61, Tryd.ntmps61
  go_upto_region 1 with fail
  rw [← HW.out]
  go_wp2_with fail
  refine CM.out.mono ?_
  rintro e w2 ⟨rfl, rfl⟩
  go_wp2_with fail
  refine IH.out.mono ?_
  rintro e w3 ⟨rfl, ⟨A3, c3, hk3⟩, hb3⟩
  have HK3 := Lib.hid (And.intro hk3 hb3)
  have r3 : BArr w3 w.heap.size 75 zero64 := (hb3.block _ H1.out.res.lt (by have := HLT.out; omega)).trans H1.out.res
  have HR3 := Lib.hid r3
  clear hk3 hb3 r3
  go_upto_region 9 with (with_reducible refine wpList_store_newP w3 _ rfl rfl (.tmp 14) (.tmp 47) rfl rfl (P ++ Q) hPQ rfl ?_)
  have b4 := below_alloc w3 (.cells (bvs (P ++ Q)).toArray 75)
  have g4 := BArr.new w3 75 (P ++ Q)
  obtain ⟨w4, hw4⟩ : ∃ w4, w4 = w3.alloc (.cells (bvs (P ++ Q)).toArray 75) := ⟨_, rfl⟩
  rw [← hw4] at b4 g4 ⊢
  have HK4 := Lib.hid (HK3.out.1.below_ b4)
  have HR4 := Lib.hid (HR3.out.below b4)
  have BU4 := Lib.hid (((But.of_below H1.out.below).trans HK3.out.2).trans (But.of_below b4))
  have G4 := Lib.hid g4
  have S4 := Lib.hid (And.intro HK3.out.2.size (And.intro b4.size (show w3.heap.size < w4.heap.size from by rw [hw4]; simp)))
  clear hw4 b4 g4
  have mv : missV E = .iface 144 (.pointer (some E)) := rfl
  rw [mv]
  have hG := Lib.hid G4.out.at_
  have hR4 := HR4.out
  go_wp2_with (first | with_reducible refine wpList_load_pair rfl (.tmp 14) rfl ⟨w3.heap.size, 0, none⟩ rfl (P ++ Q) hPQ hG.out ?_ | with_reducible refine wpList_store_pair rfl (.tmp 9) (.tmp 51) rfl w.heap.size rfl zero64 (P ++ Q) HZ.out hPQ hR4 rfl ?_)
  have r5 : BArr (w4.setRow w.heap.size (bvs (P ++ Q)).toArray) w.heap.size 75 (P ++ Q) := hR4.setRow _
  refine bodyPost_ret_by (results_cell_tmp (p := 9) (q := 10) (ty := 75) (by kernel_rfl) _ _ ⟨w.heap.size, 0, none⟩ (sv (P ++ Q)) rfl (run_load_pair _ _ _ hPQ r5.at_)) rfl ?_
  have hlt := HLT.out
  have hb0 := HP.out.below.size
  have bu := BU4.out
  exact ⟨rfl, ⟨A3, c3, HK4.out.setRow (by omega) ⟨by omega, by omega, by omega, by omega⟩ _⟩, ⟨bu.os, bu.tape, bu.output, by rw [setRow_size]; exact bu.size, fun b hb hne => (Go.setRow_other _ _ _ _ (by omega)).trans (bu.block b hb hne)⟩⟩

set_option maxRecDepth 100000 in
set_option maxHeartbeats 4000000 in
theorem klead_high_fall {P Q : List Nat} {j' : Nat} (h : KIn B w ab lb nb gb n j A c ys a) (hPl : P.length = 32) (hQl : Q.length = 32) (h2 : 2 ≤ size) (hz : size < 18446744073709551616) (hfs : from_ < size) (ha : ¬ from_ ≤ cutN size)
    (ih : ∀ w' : World, KIn B w' ab lb nb gb n j A c ys a → Calls Tryd.prog 61 #[.int .u64 ((from_ - cutN size) : Nat), .int .u64 ((size - cutN size) : Nat), .bool false, .pointer (some ⟨ab, 0, none⟩), .pointer (some ⟨nb, 0, none⟩), .pointer (some ⟨gb, 0, none⟩)] w' (Led B w' ab lb nb gb n ys a P Q (missV E) j'))
 :
    Calls Tryd.prog 61 #[.int .u64 (from_ : Int), .int .u64 (size : Int), .bool edge, .pointer (some ⟨ab, 0, none⟩), .pointer (some ⟨nb, 0, none⟩), .pointer (some ⟨gb, 0, none⟩)] w (Led B w ab lb nb gb n ys a P Q (missV E) j') := by
  have e0 : (bvs zero64).toArray = #[.int .u8 0, .int .u8 0, .int .u8 0, .int .u8 0, .int .u8 0, .int .u8 0, .int .u8 0, .int .u8 0, .int .u8 0, .int .u8 0, .int .u8 0, .int .u8 0, .int .u8 0, .int .u8 0, .int .u8 0, .int .u8 0, .int .u8 0, .int .u8 0, .int .u8 0, .int .u8 0, .int .u8 0, .int .u8 0, .int .u8 0, .int .u8 0, .int .u8 0, .int .u8 0, .int .u8 0, .int .u8 0, .int .u8 0, .int .u8 0, .int .u8 0, .int .u8 0, .int .u8 0, .int .u8 0, .int .u8 0, .int .u8 0, .int .u8 0, .int .u8 0, .int .u8 0, .int .u8 0, .int .u8 0, .int .u8 0, .int .u8 0, .int .u8 0, .int .u8 0, .int .u8 0, .int .u8 0, .int .u8 0, .int .u8 0, .int .u8 0, .int .u8 0, .int .u8 0, .int .u8 0, .int .u8 0, .int .u8 0, .int .u8 0, .int .u8 0, .int .u8 0, .int .u8 0, .int .u8 0, .int .u8 0, .int .u8 0, .int .u8 0, .int .u8 0] := rfl
  have h1 := kleadIn_of w
  rw [e0] at h1
  clear e0
  obtain ⟨w1, hw1⟩ : ∃ w1, w1 = w.alloc (.cells #[.int .u8 0, .int .u8 0, .int .u8 0, .int .u8 0, .int .u8 0, .int .u8 0, .int .u8 0, .int .u8 0, .int .u8 0, .int .u8 0, .int .u8 0, .int .u8 0, .int .u8 0, .int .u8 0, .int .u8 0, .int .u8 0, .int .u8 0, .int .u8 0, .int .u8 0, .int .u8 0, .int .u8 0, .int .u8 0, .int .u8 0, .int .u8 0, .int .u8 0, .int .u8 0, .int .u8 0, .int .u8 0, .int .u8 0, .int .u8 0, .int .u8 0, .int .u8 0, .int .u8 0, .int .u8 0, .int .u8 0, .int .u8 0, .int .u8 0, .int .u8 0, .int .u8 0, .int .u8 0, .int .u8 0, .int .u8 0, .int .u8 0, .int .u8 0, .int .u8 0, .int .u8 0, .int .u8 0, .int .u8 0, .int .u8 0, .int .u8 0, .int .u8 0, .int .u8 0, .int .u8 0, .int .u8 0, .int .u8 0, .int .u8 0, .int .u8 0, .int .u8 0, .int .u8 0, .int .u8 0, .int .u8 0, .int .u8 0, .int .u8 0, .int .u8 0] 75) := ⟨_, rfl⟩
  rw [← hw1] at h1
  have H1 := Lib.hid h1
  have HW := Lib.hid hw1
  have HP := Lib.hid h
  have HLT := Lib.hid (And.intro h.lt (And.intro h1.size h1.below.size))
  have HZ := Lib.hid (show zero64.length = 64 from rfl)
  have hcl := cutN_lt h2
  have hcp := cutN_pos size
  obtain ⟨k, hk0⟩ : ∃ k, cutN size = k := ⟨_, rfl⟩
  rw [hk0] at hcl hcp ha ih
  have ns : ((from_ : Int) == (size : Int)) = false := by simp; omega
  have hle : ¬ (from_ : Int) ≤ (k : Int) := by omega
  obtain ⟨d, hd0⟩ : ∃ d, from_ - k = d := ⟨_, rfl⟩
  obtain ⟨m, hm0⟩ : ∃ m, size - k = m := ⟨_, rfl⟩
  rw [hd0, hm0] at ih
  have ea : IntKind.u64.wrap ((from_ : Int) - (k : Int)) = (d : Int) := by rw [IntKind.wrap_u64]; omega
  have em : IntKind.u64.wrap ((size : Int) - (k : Int)) = (m : Int) := by rw [IntKind.wrap_u64]; omega
  have CM := Lib.hid (kleft_any size w1 h2 hz)
  rw [hk0] at CM
  have K1 := h.below_ h1.below
  have l1 := K1.led.cell
  unfold leadsK at l1
  have IH := Lib.hid (ih w1 K1)
  have hPQ : (P ++ Q).length = 64 := by rw [List.length_append]; omega
  clear h h1 hw1 ih K1 hk0 hcl hcp h2 hz hfs ha hPl hQl hd0 hm0
  go_enter Tryd.func61, Tryd.ntmps61
  go_upto_region 1 with fail
  rw [← HW.out]
  go_wp2_with fail
  refine CM.out.mono ?_
  rintro e w2 ⟨rfl, rfl⟩
  go_wp2_with fail
  refine IH.out.mono ?_
  rintro e w3 ⟨rfl, ⟨A3, c3, hk3⟩, hb3⟩
  have HK3 := Lib.hid (And.intro hk3 hb3)
  have r3 : BArr w3 w.heap.size 75 zero64 := (hb3.block _ H1.out.res.lt (by have := HLT.out; omega)).trans H1.out.res
  have HR3 := Lib.hid r3
  clear hk3 hb3 r3
  go_upto_region 14 with (with_reducible refine wpList_store_newP w3 _ rfl rfl (.tmp 17) (.tmp 75) rfl rfl (P ++ Q) hPQ rfl ?_)
  have b4 := below_alloc w3 (.cells (bvs (P ++ Q)).toArray 75)
  have g4 := BArr.new w3 75 (P ++ Q)
  obtain ⟨w4, hw4⟩ : ∃ w4, w4 = w3.alloc (.cells (bvs (P ++ Q)).toArray 75) := ⟨_, rfl⟩
  rw [← hw4] at b4 g4 ⊢
  have HK4 := Lib.hid (HK3.out.1.below_ b4)
  have HR4 := Lib.hid (HR3.out.below b4)
  have BU4 := Lib.hid (((But.of_below H1.out.below).trans HK3.out.2).trans (But.of_below b4))
  have G4 := Lib.hid g4
  have S4 := Lib.hid (And.intro HK3.out.2.size (And.intro b4.size (show w3.heap.size < w4.heap.size from by rw [hw4]; simp)))
  clear hw4 b4 g4
  have mv : missV E = .iface 144 (.pointer (some E)) := rfl
  rw [mv]
  have hG := Lib.hid G4.out.at_
  have hR4 := HR4.out
  go_wp2_with (first | with_reducible refine wpList_load_pair rfl (.tmp 17) rfl ⟨w3.heap.size, 0, none⟩ rfl (P ++ Q) hPQ hG.out ?_ | with_reducible refine wpList_store_pair rfl (.tmp 9) (.tmp 79) rfl w.heap.size rfl zero64 (P ++ Q) HZ.out hPQ hR4 rfl ?_)
  have r5 : BArr (w4.setRow w.heap.size (bvs (P ++ Q)).toArray) w.heap.size 75 (P ++ Q) := hR4.setRow _
  refine bodyPost_ret_by (results_cell_tmp (p := 9) (q := 10) (ty := 75) (by kernel_rfl) _ _ ⟨w.heap.size, 0, none⟩ (sv (P ++ Q)) rfl (run_load_pair _ _ _ hPQ r5.at_)) rfl ?_
  have hlt := HLT.out
  have hb0 := HP.out.below.size
  have bu := BU4.out
  exact ⟨rfl, ⟨A3, c3, HK4.out.setRow (by omega) ⟨by omega, by omega, by omega, by omega⟩ _⟩, ⟨bu.os, bu.tape, bu.output, by rw [setRow_size]; exact bu.size, fun b hb hne => (Go.setRow_other _ _ _ _ (by omega)).trans (bu.block b hb hne)⟩⟩

set_option maxRecDepth 100000 in
set_option maxHeartbeats 4000000 in
theorem klead_low_go {P Q s : List Nat} {ev : Value} {j1 j' : Nat} (h : KIn B w ab lb nb gb n j A c ys a) (hPl : P.length = 32) (hQl : Q.length = 32) (h2 : 2 ≤ size) (hz : size < 18446744073709551616) (hfs : from_ < size) (ha : from_ ≤ cutN size)
    (ih : ∀ w' : World, KIn B w' ab lb nb gb n j A c ys a → Calls Tryd.prog 61 #[.int .u64 (from_ : Nat), .int .u64 ((cutN size) : Nat), .bool edge, .pointer (some ⟨ab, 0, none⟩), .pointer (some ⟨nb, 0, none⟩), .pointer (some ⟨gb, 0, none⟩)] w' (Led B w' ab lb nb gb n ys a P Q (.nilIface) j1))
    (cn : ∀ (w' : World) (A' : Option Addr) (c' : Nat), KIn B w' ab lb nb gb n j1 A' c' ys a → Calls Tryd.prog 60 #[.pointer (some ⟨lb, 0, none⟩)] w' fun e w'' => e = .returned (.tuple #[sv s, ev]) ∧ (∃ A' c', KIn B w'' ab lb nb gb n j' A' c' ys a) ∧ But (· = lb) w' w'')
    (hsl : s.length = 32) (hsb : ∀ x ∈ s, x < 256) (hQb : ∀ x ∈ Q, x < 256) (hk : Knows B) (hs : Starts B) :
    Calls Tryd.prog 61 #[.int .u64 (from_ : Int), .int .u64 (size : Int), .bool edge, .pointer (some ⟨ab, 0, none⟩), .pointer (some ⟨nb, 0, none⟩), .pointer (some ⟨gb, 0, none⟩)] w (Led B w ab lb nb gb n ys a P (nodeL Q s) (ev) j') := by
  have e0 : (bvs zero64).toArray = #[.int .u8 0, .int .u8 0, .int .u8 0, .int .u8 0, .int .u8 0, .int .u8 0, .int .u8 0, .int .u8 0, .int .u8 0, .int .u8 0, .int .u8 0, .int .u8 0, .int .u8 0, .int .u8 0, .int .u8 0, .int .u8 0, .int .u8 0, .int .u8 0, .int .u8 0, .int .u8 0, .int .u8 0, .int .u8 0, .int .u8 0, .int .u8 0, .int .u8 0, .int .u8 0, .int .u8 0, .int .u8 0, .int .u8 0, .int .u8 0, .int .u8 0, .int .u8 0, .int .u8 0, .int .u8 0, .int .u8 0, .int .u8 0, .int .u8 0, .int .u8 0, .int .u8 0, .int .u8 0, .int .u8 0, .int .u8 0, .int .u8 0, .int .u8 0, .int .u8 0, .int .u8 0, .int .u8 0, .int .u8 0, .int .u8 0, .int .u8 0, .int .u8 0, .int .u8 0, .int .u8 0, .int .u8 0, .int .u8 0, .int .u8 0, .int .u8 0, .int .u8 0, .int .u8 0, .int .u8 0, .int .u8 0, .int .u8 0, .int .u8 0, .int .u8 0] := rfl
  have h1 := kleadIn_of w
  rw [e0] at h1
  clear e0
  obtain ⟨w1, hw1⟩ : ∃ w1, w1 = w.alloc (.cells #[.int .u8 0, .int .u8 0, .int .u8 0, .int .u8 0, .int .u8 0, .int .u8 0, .int .u8 0, .int .u8 0, .int .u8 0, .int .u8 0, .int .u8 0, .int .u8 0, .int .u8 0, .int .u8 0, .int .u8 0, .int .u8 0, .int .u8 0, .int .u8 0, .int .u8 0, .int .u8 0, .int .u8 0, .int .u8 0, .int .u8 0, .int .u8 0, .int .u8 0, .int .u8 0, .int .u8 0, .int .u8 0, .int .u8 0, .int .u8 0, .int .u8 0, .int .u8 0, .int .u8 0, .int .u8 0, .int .u8 0, .int .u8 0, .int .u8 0, .int .u8 0, .int .u8 0, .int .u8 0, .int .u8 0, .int .u8 0, .int .u8 0, .int .u8 0, .int .u8 0, .int .u8 0, .int .u8 0, .int .u8 0, .int .u8 0, .int .u8 0, .int .u8 0, .int .u8 0, .int .u8 0, .int .u8 0, .int .u8 0, .int .u8 0, .int .u8 0, .int .u8 0, .int .u8 0, .int .u8 0, .int .u8 0, .int .u8 0, .int .u8 0, .int .u8 0] 75) := ⟨_, rfl⟩
  rw [← hw1] at h1
  have H1 := Lib.hid h1
  have HW := Lib.hid hw1
  have HP := Lib.hid h
  have HLT := Lib.hid (And.intro h.lt (And.intro h1.size h1.below.size))
  have HZ := Lib.hid (show zero64.length = 64 from rfl)
  have hcl := cutN_lt h2
  have hcp := cutN_pos size
  obtain ⟨k, hk0⟩ : ∃ k, cutN size = k := ⟨_, rfl⟩
  rw [hk0] at hcl hcp ha ih
  have ns : ((from_ : Int) == (size : Int)) = false := by simp; omega
  have hle : (from_ : Int) ≤ (k : Int) := by omega
  have CM := Lib.hid (kleft_any size w1 h2 hz)
  rw [hk0] at CM
  have K1 := h.below_ h1.below
  have l1 := K1.led.cell
  unfold leadsK at l1
  have IH := Lib.hid (ih w1 K1)
  have hPQ : (P ++ Q).length = 64 := by rw [List.length_append]; omega
  have HCN := Lib.hid cn
  have HB := Lib.hid (And.intro hsl (And.intro hsb (And.intro hQb (And.intro hk hs))))
  have HPL := Lib.hid (And.intro hPl hQl)
  clear h h1 hw1 ih K1 hk0 hcl hcp h2 hz hfs ha cn hsb hQb hk hs
  go_enter Tryd.func61, Tryd.ntmps61
  go_upto_region 1 with fail
  rw [← HW.out]
  go_wp2_with fail
  refine CM.out.mono ?_
  rintro e w2 ⟨rfl, rfl⟩
  go_wp2_with fail
  refine IH.out.mono ?_
  rintro e w3 ⟨rfl, ⟨A3, c3, hk3⟩, hb3⟩
  have HK3 := Lib.hid (And.intro hk3 hb3)
  have r3 : BArr w3 w.heap.size 75 zero64 := (hb3.block _ H1.out.res.lt (by have := HLT.out; omega)).trans H1.out.res
  have HR3 := Lib.hid r3
  clear hk3 hb3 r3
  go_upto_region 9 with (with_reducible refine wpList_store_newP w3 _ rfl rfl (.tmp 14) (.tmp 47) rfl rfl (P ++ Q) hPQ rfl ?_)
  have b4 := below_alloc w3 (.cells (bvs (P ++ Q)).toArray 75)
  have g4 := BArr.new w3 75 (P ++ Q)
  obtain ⟨w4, hw4⟩ : ∃ w4, w4 = w3.alloc (.cells (bvs (P ++ Q)).toArray 75) := ⟨_, rfl⟩
  rw [← hw4] at b4 g4 ⊢
  have HK4 := Lib.hid (HK3.out.1.below_ b4)
  have HR4 := Lib.hid (HR3.out.below b4)
  have BU4 := Lib.hid (((But.of_below H1.out.below).trans HK3.out.2).trans (But.of_below b4))
  have G4 := Lib.hid g4
  have S4 := Lib.hid (And.intro HK3.out.2.size (And.intro b4.size (show w3.heap.size < w4.heap.size from by rw [hw4]; simp)))
  clear hw4 b4 g4
  have n4 := HK4.out.nxt.cell
  unfold takesK at n4
  have CN := Lib.hid (HCN.out w4 A3 c3 HK4.out)
  go_wp2_with fail
  refine CN.out.mono ?_
  rintro e w5 ⟨rfl, ⟨A5, c5, hk5⟩, hb5⟩
  have s5 := S4.out
  have l5 := HLT.out
  have HK5 := Lib.hid hk5
  have HR5 := Lib.hid ((hb5.block _ HR4.out.lt (by omega)).trans HR4.out)
  have G5 := Lib.hid ((hb5.block _ G4.out.lt (by omega)).trans G4.out)
  have BU5 := Lib.hid (BU4.out.trans hb5)
  have S5 := Lib.hid hb5.size
  clear hk5 hb5 s5 l5
  go_upto_region 12 with (with_reducible refine wpList_store_new w5 _ rfl rfl (.tmp 16) (.tmp 56) rfl rfl s hsl rfl ?_)
  have b6 := below_alloc w5 (.cells (bvs s).toArray 34)
  have g6 := BArr.new w5 34 s
  obtain ⟨w6, hw6⟩ : ∃ w6, w6 = w5.alloc (.cells (bvs s).toArray 34) := ⟨_, rfl⟩
  rw [← hw6] at b6 g6 ⊢
  have HK6 := Lib.hid (HK5.out.below_ b6)
  have HR6 : BArr w6 w.heap.size 75 zero64 := BArr.below HR5.out b6
  have BU6 := Lib.hid (BU5.out.trans (But.of_below b6))
  have G6 : BArr w6 w3.heap.size 75 (P ++ Q) := BArr.below G5.out b6
  have S6 := Lib.hid (And.intro S4.out (And.intro S5.out (show w5.heap.size < w6.heap.size from by rw [hw6]; simp)))
  have KS := Lib.hid (fun (W : World) (hW : Below w6.heap.size w6 W) => And.intro (HB.out.2.2.2.1.below (below_on HK6.out.below (Nat.le_refl _) hW)) (HB.out.2.2.2.2.below (below_on HK6.out.below (Nat.le_refl _) hW)))
  clear hw6 b6
  obtain ⟨pb, hpb⟩ : ∃ pb, w3.heap.size = pb := ⟨_, rfl⟩
  obtain ⟨sb, hsb0⟩ : ∃ sb, w5.heap.size = sb := ⟨_, rfl⟩
  have HPB0 := Lib.hid (And.intro hpb hsb0)
  rw [hpb] at G6
  rw [hsb0] at g6
  rw [hpb, hsb0]
  clear hpb hsb0
  have hS0 : BArr w6.drew pb 75 (P ++ Q) ∧ BArr w6.drew sb 34 s := ⟨G6, g6⟩
  have hB0 : Below w6.heap.size w6 w6.drew := (Below.refl _ _).drew
  refine wp_region_held (S := fun W => BArr W pb 75 (P ++ Q) ∧ BArr W sb 34 s) (by kernel_rfl) ?_
  change wpAnyH _ _ _ _ _ _ _ _ w6.drew
  refine' wpAnyH_take (i := 0) (oi := _) (v := _) ?hi0 (by kernel_rfl) ?hf0 ?hr0 ?hQ0 ?hy0 hS0 ?rest0
  case hi0 => (simp only [List.getElem?_toArray, List.getElem?_cons_zero]; rfl)
  case hf0 => kernel_rfl
  case hr0 => kernel_rfl
  case hQ0 => exact fun _ _ _ h => h
  case hy0 => refine Or.inl ⟨by rfl, ?_⟩; intro W hSw; go_simp; try with_reducible rfl
  try simp only [Act.put, List.setIfInBounds_toArray, List.set_cons_zero, List.set_cons_succ]
  refine' wpAnyH_take (i := 1) (oi := _) (v := sv P) ?hi1 (by kernel_rfl) ?hf1 ?hr1 ?hQ1 ?hy1 hS0 ?rest1
  case hi1 => (simp only [List.getElem?_toArray, List.getElem?_cons_zero, List.getElem?_cons_succ]; rfl)
  case hf1 => kernel_rfl
  case hr1 => kernel_rfl
  case hQ1 => exact fun _ _ _ h => h
  case hy1 => exact yields_sum (by rfl) (.tmp 58) (by rfl) _ (by rfl) P hPl (fun W hSw => hSw.1.first)
  try simp only [Act.put, List.setIfInBounds_toArray, List.set_cons_zero, List.set_cons_succ]
  refine' wpAnyH_take (i := 2) (oi := _) (v := _) ?hi2 (by kernel_rfl) ?hf2 ?hr2 ?hQ2 ?hy2 hS0 ?rest2
  case hi2 => (simp only [List.getElem?_toArray, List.getElem?_cons_zero, List.getElem?_cons_succ]; rfl)
  case hf2 => kernel_rfl
  case hr2 => kernel_rfl
  case hQ2 => exact fun _ _ _ h => h
  case hy2 => refine Or.inl ⟨by rfl, ?_⟩; intro W hSw; go_simp; try with_reducible rfl
  try simp only [Act.put, List.setIfInBounds_toArray, List.set_cons_zero, List.set_cons_succ]
  refine' wpAnyH_take (i := 3) (oi := _) (v := sv Q) ?hi3 (by kernel_rfl) ?hf3 ?hr3 ?hQ3 ?hy3 hS0 ?rest3
  case hi3 => (simp only [List.getElem?_toArray, List.getElem?_cons_zero, List.getElem?_cons_succ]; rfl)
  case hf3 => kernel_rfl
  case hr3 => kernel_rfl
  case hQ3 => exact fun _ _ _ h => h
  case hy3 => exact yields_sum (by rfl) (.tmp 60) (by rfl) _ (by rfl) Q hQl (fun W hSw => (hSw.1.second hPl))
  try simp only [Act.put, List.setIfInBounds_toArray, List.set_cons_zero, List.set_cons_succ]
  refine' wpAnyH_take (i := 4) (oi := _) (v := sv s) ?hi4 (by kernel_rfl) ?hf4 ?hr4 ?hQ4 ?hy4 hS0 ?rest4
  case hi4 => (simp only [List.getElem?_toArray, List.getElem?_cons_zero, List.getElem?_cons_succ]; rfl)
  case hf4 => kernel_rfl
  case hr4 => kernel_rfl
  case hQ4 => exact fun _ _ _ h => h
  case hy4 => exact yields_sum (by rfl) (.tmp 16) (by rfl) _ (by rfl) s hsl (fun W hSw => hSw.2.at_)
  try simp only [Act.put, List.setIfInBounds_toArray, List.set_cons_zero, List.set_cons_succ]
  refine' wpAnyH_take (i := 7) (oi := _) (v := _) ?hi7 (by kernel_rfl) ?hf7 ?hr7 ?hQ7 ?hy7 hS0 ?rest7
  case hi7 => (simp only [List.getElem?_toArray, List.getElem?_cons_zero, List.getElem?_cons_succ]; rfl)
  case hf7 => kernel_rfl
  case hr7 => kernel_rfl
  case hQ7 => exact fun _ _ _ h => h
  case hy7 => refine Or.inl ⟨by rfl, ?_⟩; intro W hSw; go_simp; try with_reducible rfl
  try simp only [Act.put, List.setIfInBounds_toArray, List.set_cons_zero, List.set_cons_succ]
  refine wpAnyH_ready (rs := [5]) (by kernel_rfl) (by simp) ?_
  refine' AllReadyH.cons (o := _) ?hi5 (fun K hK => ?_) AllReadyH.nil
  case hi5 => (simp only [List.getElem?_toArray, List.getElem?_cons_zero, List.getElem?_cons_succ]; rfl)
  rw [if_pos (by rfl)]
  go_simp
  refine (node_any Q s w6.drew hQl hsl HB.out.2.2.1 HB.out.2.1 (KS.out _ hB0).1 (KS.out _ hB0).2).mono ?_
  rintro e W1 ⟨rfl, hb1⟩
  have hS1 := And.intro (hS0.1.below hb1) (hS0.2.below hb1)
  have hB1 := below_on hB0 (Nat.le_refl _) hb1
  refine hK.out _ _ hS1 (fun _ => ?_)
  clear hK K
  try simp only [Act.put, List.setIfInBounds_toArray, List.set_cons_zero, List.set_cons_succ]
  refine' wpAnyH_take (i := 6) (oi := _) (v := sv (P ++ nodeL Q s)) ?hi6 (by kernel_rfl) ?hf6 ?hr6 ?hQ6 ?hy6 hS1 ?rest6
  case hi6 => (simp only [List.getElem?_toArray, List.getElem?_cons_zero, List.getElem?_cons_succ]; rfl)
  case hf6 => kernel_rfl
  case hr6 => kernel_rfl
  case hQ6 => exact fun _ _ _ h => h
  case hy6 => exact yields_build_pair (by rfl) (.tmp 59) (.tmp 63) (by rfl) P (nodeL Q s) (by rfl) (by rfl) hPl (nodeL_length _ _)
  try simp only [Act.put, List.setIfInBounds_toArray, List.set_cons_zero, List.set_cons_succ]
  have hPR : (P ++ (nodeL Q s)).length = 64 := by rw [List.length_append]; have := nodeL_length; simp only [*]
  have RW : BArr W1 w.heap.size 75 zero64 := HR6.below hB1
  refine wpAnyH_ready (rs := [8]) (by kernel_rfl) (by simp) ?_
  refine' AllReadyH.cons (o := _) ?hi8 (fun K hK => ?_) AllReadyH.nil
  case hi8 => (simp only [List.getElem?_toArray, List.getElem?_cons_zero, List.getElem?_cons_succ]; rfl)
  rw [if_pos (by rfl)]
  refine step_store_pair (.tmp 9) (.tmp 64) rfl w.heap.size rfl zero64 (P ++ (nodeL Q s)) HZ.out hPR RW rfl ?_
  have s6 := S6.out
  have l6 := HLT.out
  have r7 : BArr (W1.setRow w.heap.size (bvs (P ++ (nodeL Q s))).toArray) w.heap.size 75 (P ++ (nodeL Q s)) := RW.setRow _
  have hS9 : BArr (W1.setRow w.heap.size (bvs (P ++ (nodeL Q s))).toArray) pb 75 (P ++ Q) ∧ BArr (W1.setRow w.heap.size (bvs (P ++ (nodeL Q s))).toArray) sb 34 s :=
    ⟨hS1.1.setRow_other _ (by have := HPB0.out; omega) _, hS1.2.setRow_other _ (by have := HPB0.out; omega) _⟩
  refine hK.out _ _ hS9 (fun _ => ?_)
  clear hK K
  refine' wpAnyH_take (i := 9) (oi := _) (v := _) ?hi9 (by kernel_rfl) ?hf9 ?hr9 ?hQ9 ?hy9 hS9 ?rest9
  case hi9 => (simp only [List.getElem?_toArray, List.getElem?_cons_zero, List.getElem?_cons_succ]; rfl)
  case hf9 => kernel_rfl
  case hr9 => kernel_rfl
  case hQ9 => exact fun _ _ _ h => h
  case hy9 => refine Or.inl ⟨by rfl, ?_⟩; intro W hSw; go_simp; try with_reducible rfl
  try simp only [Act.put, List.setIfInBounds_toArray, List.set_cons_zero, List.set_cons_succ]
  refine wpAnyH_done (by kernel_rfl) ?_ _
  go_wp2
  refine bodyPost_ret_by (results_cell_tmp (p := 9) (q := 10) (ty := 75) (by kernel_rfl) _ _ ⟨w.heap.size, 0, none⟩ (sv (P ++ (nodeL Q s))) rfl (run_load_pair _ _ _ hPR r7.at_)) rfl ?_
  have hb0 := HP.out.below.size
  have bu := BU6.out.trans (But.of_below hB1)
  exact ⟨rfl, ⟨A5, c5, (HK6.out.below_ hB1).setRow (by omega) ⟨by omega, by omega, by omega, by omega⟩ _⟩, ⟨bu.os, bu.tape, bu.output, by rw [setRow_size]; exact bu.size, fun b hb hne => (Go.setRow_other _ _ _ _ (by omega)).trans (bu.block b hb hne)⟩⟩

set_option maxRecDepth 100000 in
set_option maxHeartbeats 4000000 in
theorem klead_high_go {P Q s : List Nat} {ev : Value} {j1 j' : Nat} (h : KIn B w ab lb nb gb n j A c ys a) (hPl : P.length = 32) (hQl : Q.length = 32) (h2 : 2 ≤ size) (hz : size < 18446744073709551616) (hfs : from_ < size) (ha : ¬ from_ ≤ cutN size)
    (ih : ∀ w' : World, KIn B w' ab lb nb gb n j A c ys a → Calls Tryd.prog 61 #[.int .u64 ((from_ - cutN size) : Nat), .int .u64 ((size - cutN size) : Nat), .bool false, .pointer (some ⟨ab, 0, none⟩), .pointer (some ⟨nb, 0, none⟩), .pointer (some ⟨gb, 0, none⟩)] w' (Led B w' ab lb nb gb n ys a P Q (.nilIface) j1))
    (cn : ∀ (w' : World) (A' : Option Addr) (c' : Nat), KIn B w' ab lb nb gb n j1 A' c' ys a → Calls Tryd.prog 60 #[.pointer (some ⟨lb, 0, none⟩)] w' fun e w'' => e = .returned (.tuple #[sv s, ev]) ∧ (∃ A' c', KIn B w'' ab lb nb gb n j' A' c' ys a) ∧ But (· = lb) w' w'')
    (hsl : s.length = 32) (hsb : ∀ x ∈ s, x < 256) (hPb : ∀ x ∈ P, x < 256) (hQb : ∀ x ∈ Q, x < 256) (hk : Knows B) (hs : Starts B) :
    Calls Tryd.prog 61 #[.int .u64 (from_ : Int), .int .u64 (size : Int), .bool edge, .pointer (some ⟨ab, 0, none⟩), .pointer (some ⟨nb, 0, none⟩), .pointer (some ⟨gb, 0, none⟩)] w (Led B w ab lb nb gb n ys a (nodeL s P) (nodeL s Q) (ev) j') := by
  have e0 : (bvs zero64).toArray = #[.int .u8 0, .int .u8 0, .int .u8 0, .int .u8 0, .int .u8 0, .int .u8 0, .int .u8 0, .int .u8 0, .int .u8 0, .int .u8 0, .int .u8 0, .int .u8 0, .int .u8 0, .int .u8 0, .int .u8 0, .int .u8 0, .int .u8 0, .int .u8 0, .int .u8 0, .int .u8 0, .int .u8 0, .int .u8 0, .int .u8 0, .int .u8 0, .int .u8 0, .int .u8 0, .int .u8 0, .int .u8 0, .int .u8 0, .int .u8 0, .int .u8 0, .int .u8 0, .int .u8 0, .int .u8 0, .int .u8 0, .int .u8 0, .int .u8 0, .int .u8 0, .int .u8 0, .int .u8 0, .int .u8 0, .int .u8 0, .int .u8 0, .int .u8 0, .int .u8 0, .int .u8 0, .int .u8 0, .int .u8 0, .int .u8 0, .int .u8 0, .int .u8 0, .int .u8 0, .int .u8 0, .int .u8 0, .int .u8 0, .int .u8 0, .int .u8 0, .int .u8 0, .int .u8 0, .int .u8 0, .int .u8 0, .int .u8 0, .int .u8 0, .int .u8 0] := rfl
  have h1 := kleadIn_of w
  rw [e0] at h1
  clear e0
  obtain ⟨w1, hw1⟩ : ∃ w1, w1 = w.alloc (.cells #[.int .u8 0, .int .u8 0, .int .u8 0, .int .u8 0, .int .u8 0, .int .u8 0, .int .u8 0, .int .u8 0, .int .u8 0, .int .u8 0, .int .u8 0, .int .u8 0, .int .u8 0, .int .u8 0, .int .u8 0, .int .u8 0, .int .u8 0, .int .u8 0, .int .u8 0, .int .u8 0, .int .u8 0, .int .u8 0, .int .u8 0, .int .u8 0, .int .u8 0, .int .u8 0, .int .u8 0, .int .u8 0, .int .u8 0, .int .u8 0, .int .u8 0, .int .u8 0, .int .u8 0, .int .u8 0, .int .u8 0, .int .u8 0, .int .u8 0, .int .u8 0, .int .u8 0, .int .u8 0, .int .u8 0, .int .u8 0, .int .u8 0, .int .u8 0, .int .u8 0, .int .u8 0, .int .u8 0, .int .u8 0, .int .u8 0, .int .u8 0, .int .u8 0, .int .u8 0, .int .u8 0, .int .u8 0, .int .u8 0, .int .u8 0, .int .u8 0, .int .u8 0, .int .u8 0, .int .u8 0, .int .u8 0, .int .u8 0, .int .u8 0, .int .u8 0] 75) := ⟨_, rfl⟩
  rw [← hw1] at h1
  have H1 := Lib.hid h1
  have HW := Lib.hid hw1
  have HP := Lib.hid h
  have HLT := Lib.hid (And.intro h.lt (And.intro h1.size h1.below.size))
  have HZ := Lib.hid (show zero64.length = 64 from rfl)
  have hcl := cutN_lt h2
  have hcp := cutN_pos size
  obtain ⟨k, hk0⟩ : ∃ k, cutN size = k := ⟨_, rfl⟩
  rw [hk0] at hcl hcp ha ih
  have ns : ((from_ : Int) == (size : Int)) = false := by simp; omega
  have hle : ¬ (from_ : Int) ≤ (k : Int) := by omega
  obtain ⟨d, hd0⟩ : ∃ d, from_ - k = d := ⟨_, rfl⟩
  obtain ⟨m, hm0⟩ : ∃ m, size - k = m := ⟨_, rfl⟩
  rw [hd0, hm0] at ih
  have ea : IntKind.u64.wrap ((from_ : Int) - (k : Int)) = (d : Int) := by rw [IntKind.wrap_u64]; omega
  have em : IntKind.u64.wrap ((size : Int) - (k : Int)) = (m : Int) := by rw [IntKind.wrap_u64]; omega
  have CM := Lib.hid (kleft_any size w1 h2 hz)
  rw [hk0] at CM
  have K1 := h.below_ h1.below
  have l1 := K1.led.cell
  unfold leadsK at l1
  have IH := Lib.hid (ih w1 K1)
  have hPQ : (P ++ Q).length = 64 := by rw [List.length_append]; omega
  have HCN := Lib.hid cn
  have HB := Lib.hid (And.intro hsl (And.intro hsb (And.intro hQb (And.intro hk hs))))
  have HPL := Lib.hid (And.intro hPl hQl)
  have HPB := Lib.hid hPb
  clear h h1 hw1 ih K1 hk0 hcl hcp h2 hz hfs ha cn hsb hQb hk hs hPb hd0 hm0
  go_enter Tryd.func61, Tryd.ntmps61
  go_upto_region 1 with fail
  rw [← HW.out]
  go_wp2_with fail
  refine CM.out.mono ?_
  rintro e w2 ⟨rfl, rfl⟩
  go_wp2_with fail
  refine IH.out.mono ?_
  rintro e w3 ⟨rfl, ⟨A3, c3, hk3⟩, hb3⟩
  have HK3 := Lib.hid (And.intro hk3 hb3)
  have r3 : BArr w3 w.heap.size 75 zero64 := (hb3.block _ H1.out.res.lt (by have := HLT.out; omega)).trans H1.out.res
  have HR3 := Lib.hid r3
  clear hk3 hb3 r3
  go_upto_region 14 with (with_reducible refine wpList_store_newP w3 _ rfl rfl (.tmp 17) (.tmp 75) rfl rfl (P ++ Q) hPQ rfl ?_)
  have b4 := below_alloc w3 (.cells (bvs (P ++ Q)).toArray 75)
  have g4 := BArr.new w3 75 (P ++ Q)
  obtain ⟨w4, hw4⟩ : ∃ w4, w4 = w3.alloc (.cells (bvs (P ++ Q)).toArray 75) := ⟨_, rfl⟩
  rw [← hw4] at b4 g4 ⊢
  have HK4 := Lib.hid (HK3.out.1.below_ b4)
  have HR4 := Lib.hid (HR3.out.below b4)
  have BU4 := Lib.hid (((But.of_below H1.out.below).trans HK3.out.2).trans (But.of_below b4))
  have G4 := Lib.hid g4
  have S4 := Lib.hid (And.intro HK3.out.2.size (And.intro b4.size (show w3.heap.size < w4.heap.size from by rw [hw4]; simp)))
  clear hw4 b4 g4
  have n4 := HK4.out.nxt.cell
  unfold takesK at n4
  have CN := Lib.hid (HCN.out w4 A3 c3 HK4.out)
  go_wp2_with fail
  refine CN.out.mono ?_
  rintro e w5 ⟨rfl, ⟨A5, c5, hk5⟩, hb5⟩
  have s5 := S4.out
  have l5 := HLT.out
  have HK5 := Lib.hid hk5
  have HR5 := Lib.hid ((hb5.block _ HR4.out.lt (by omega)).trans HR4.out)
  have G5 := Lib.hid ((hb5.block _ G4.out.lt (by omega)).trans G4.out)
  have BU5 := Lib.hid (BU4.out.trans hb5)
  have S5 := Lib.hid hb5.size
  clear hk5 hb5 s5 l5
  go_upto_region 17 with (with_reducible refine wpList_store_new w5 _ rfl rfl (.tmp 19) (.tmp 84) rfl rfl s hsl rfl ?_)
  have b6 := below_alloc w5 (.cells (bvs s).toArray 34)
  have g6 := BArr.new w5 34 s
  obtain ⟨w6, hw6⟩ : ∃ w6, w6 = w5.alloc (.cells (bvs s).toArray 34) := ⟨_, rfl⟩
  rw [← hw6] at b6 g6 ⊢
  have HK6 := Lib.hid (HK5.out.below_ b6)
  have HR6 : BArr w6 w.heap.size 75 zero64 := BArr.below HR5.out b6
  have BU6 := Lib.hid (BU5.out.trans (But.of_below b6))
  have G6 : BArr w6 w3.heap.size 75 (P ++ Q) := BArr.below G5.out b6
  have S6 := Lib.hid (And.intro S4.out (And.intro S5.out (show w5.heap.size < w6.heap.size from by rw [hw6]; simp)))
  have KS := Lib.hid (fun (W : World) (hW : Below w6.heap.size w6 W) => And.intro (HB.out.2.2.2.1.below (below_on HK6.out.below (Nat.le_refl _) hW)) (HB.out.2.2.2.2.below (below_on HK6.out.below (Nat.le_refl _) hW)))
  clear hw6 b6
  obtain ⟨pb, hpb⟩ : ∃ pb, w3.heap.size = pb := ⟨_, rfl⟩
  obtain ⟨sb, hsb0⟩ : ∃ sb, w5.heap.size = sb := ⟨_, rfl⟩
  have HPB0 := Lib.hid (And.intro hpb hsb0)
  rw [hpb] at G6
  rw [hsb0] at g6
  rw [hpb, hsb0]
  clear hpb hsb0
  have hS0 : BArr w6.drew pb 75 (P ++ Q) ∧ BArr w6.drew sb 34 s := ⟨G6, g6⟩
  have hB0 : Below w6.heap.size w6 w6.drew := (Below.refl _ _).drew
  refine wp_region_held (S := fun W => BArr W pb 75 (P ++ Q) ∧ BArr W sb 34 s) (by kernel_rfl) ?_
  change wpAnyH _ _ _ _ _ _ _ _ w6.drew
  refine' wpAnyH_take (i := 0) (oi := _) (v := sv s) ?hi0 (by kernel_rfl) ?hf0 ?hr0 ?hQ0 ?hy0 hS0 ?rest0
  case hi0 => (simp only [List.getElem?_toArray, List.getElem?_cons_zero]; rfl)
  case hf0 => kernel_rfl
  case hr0 => kernel_rfl
  case hQ0 => exact fun _ _ _ h => h
  case hy0 => exact yields_sum (by rfl) (.tmp 19) (by rfl) _ (by rfl) s hsl (fun W hSw => hSw.2.at_)
  try simp only [Act.put, List.setIfInBounds_toArray, List.set_cons_zero, List.set_cons_succ]
  refine' wpAnyH_take (i := 1) (oi := _) (v := _) ?hi1 (by kernel_rfl) ?hf1 ?hr1 ?hQ1 ?hy1 hS0 ?rest1
  case hi1 => (simp only [List.getElem?_toArray, List.getElem?_cons_zero, List.getElem?_cons_succ]; rfl)
  case hf1 => kernel_rfl
  case hr1 => kernel_rfl
  case hQ1 => exact fun _ _ _ h => h
  case hy1 => refine Or.inl ⟨by rfl, ?_⟩; intro W hSw; go_simp; try with_reducible rfl
  try simp only [Act.put, List.setIfInBounds_toArray, List.set_cons_zero, List.set_cons_succ]
  refine' wpAnyH_take (i := 2) (oi := _) (v := sv P) ?hi2 (by kernel_rfl) ?hf2 ?hr2 ?hQ2 ?hy2 hS0 ?rest2
  case hi2 => (simp only [List.getElem?_toArray, List.getElem?_cons_zero, List.getElem?_cons_succ]; rfl)
  case hf2 => kernel_rfl
  case hr2 => kernel_rfl
  case hQ2 => exact fun _ _ _ h => h
  case hy2 => exact yields_sum (by rfl) (.tmp 87) (by rfl) _ (by rfl) P hPl (fun W hSw => hSw.1.first)
  try simp only [Act.put, List.setIfInBounds_toArray, List.set_cons_zero, List.set_cons_succ]
  refine' wpAnyH_take (i := 4) (oi := _) (v := sv s) ?hi4 (by kernel_rfl) ?hf4 ?hr4 ?hQ4 ?hy4 hS0 ?rest4
  case hi4 => (simp only [List.getElem?_toArray, List.getElem?_cons_zero, List.getElem?_cons_succ]; rfl)
  case hf4 => kernel_rfl
  case hr4 => kernel_rfl
  case hQ4 => exact fun _ _ _ h => h
  case hy4 => exact yields_sum (by rfl) (.tmp 19) (by rfl) _ (by rfl) s hsl (fun W hSw => hSw.2.at_)
  try simp only [Act.put, List.setIfInBounds_toArray, List.set_cons_zero, List.set_cons_succ]
  refine' wpAnyH_take (i := 5) (oi := _) (v := _) ?hi5 (by kernel_rfl) ?hf5 ?hr5 ?hQ5 ?hy5 hS0 ?rest5
  case hi5 => (simp only [List.getElem?_toArray, List.getElem?_cons_zero, List.getElem?_cons_succ]; rfl)
  case hf5 => kernel_rfl
  case hr5 => kernel_rfl
  case hQ5 => exact fun _ _ _ h => h
  case hy5 => refine Or.inl ⟨by rfl, ?_⟩; intro W hSw; go_simp; try with_reducible rfl
  try simp only [Act.put, List.setIfInBounds_toArray, List.set_cons_zero, List.set_cons_succ]
  refine' wpAnyH_take (i := 6) (oi := _) (v := sv Q) ?hi6 (by kernel_rfl) ?hf6 ?hr6 ?hQ6 ?hy6 hS0 ?rest6
  case hi6 => (simp only [List.getElem?_toArray, List.getElem?_cons_zero, List.getElem?_cons_succ]; rfl)
  case hf6 => kernel_rfl
  case hr6 => kernel_rfl
  case hQ6 => exact fun _ _ _ h => h
  case hy6 => exact yields_sum (by rfl) (.tmp 91) (by rfl) _ (by rfl) Q hQl (fun W hSw => (hSw.1.second hPl))
  try simp only [Act.put, List.setIfInBounds_toArray, List.set_cons_zero, List.set_cons_succ]
  refine' wpAnyH_take (i := 9) (oi := _) (v := _) ?hi9 (by kernel_rfl) ?hf9 ?hr9 ?hQ9 ?hy9 hS0 ?rest9
  case hi9 => (simp only [List.getElem?_toArray, List.getElem?_cons_zero, List.getElem?_cons_succ]; rfl)
  case hf9 => kernel_rfl
  case hr9 => kernel_rfl
  case hQ9 => exact fun _ _ _ h => h
  case hy9 => refine Or.inl ⟨by rfl, ?_⟩; intro W hSw; go_simp; try with_reducible rfl
  try simp only [Act.put, List.setIfInBounds_toArray, List.set_cons_zero, List.set_cons_succ]
  refine wpAnyH_ready (rs := [3]) (by kernel_rfl) (by simp) ?_
  refine' AllReadyH.cons (o := _) ?hi3 (fun K hK => ?_) AllReadyH.nil
  case hi3 => (simp only [List.getElem?_toArray, List.getElem?_cons_zero, List.getElem?_cons_succ]; rfl)
  rw [if_pos (by rfl)]
  go_simp
  refine (node_any s P w6.drew hsl hPl HB.out.2.1 HPB.out (KS.out _ hB0).1 (KS.out _ hB0).2).mono ?_
  rintro e W1 ⟨rfl, hb1⟩
  have hS1 := And.intro (hS0.1.below hb1) (hS0.2.below hb1)
  have hB1 := below_on hB0 (Nat.le_refl _) hb1
  refine hK.out _ _ hS1 (fun _ => ?_)
  clear hK K
  try simp only [Act.put, List.setIfInBounds_toArray, List.set_cons_zero, List.set_cons_succ]
  refine wpAnyH_ready (rs := [7]) (by kernel_rfl) (by simp) ?_
  refine' AllReadyH.cons (o := _) ?hi7 (fun K hK => ?_) AllReadyH.nil
  case hi7 => (simp only [List.getElem?_toArray, List.getElem?_cons_zero, List.getElem?_cons_succ]; rfl)
  rw [if_pos (by rfl)]
  go_simp
  refine (node_any s Q W1 hsl hQl HB.out.2.1 HB.out.2.2.1 (KS.out _ hB1).1 (KS.out _ hB1).2).mono ?_
  rintro e W2 ⟨rfl, hb2⟩
  have hS2 := And.intro (hS1.1.below hb2) (hS1.2.below hb2)
  have hB2 := below_on hB1 (Nat.le_refl _) hb2
  refine hK.out _ _ hS2 (fun _ => ?_)
  clear hK K
  try simp only [Act.put, List.setIfInBounds_toArray, List.set_cons_zero, List.set_cons_succ]
  refine' wpAnyH_take (i := 8) (oi := _) (v := sv (nodeL s P ++ nodeL s Q)) ?hi8 (by kernel_rfl) ?hf8 ?hr8 ?hQ8 ?hy8 hS2 ?rest8
  case hi8 => (simp only [List.getElem?_toArray, List.getElem?_cons_zero, List.getElem?_cons_succ]; rfl)
  case hf8 => kernel_rfl
  case hr8 => kernel_rfl
  case hQ8 => exact fun _ _ _ h => h
  case hy8 => exact yields_build_pair (by rfl) (.tmp 89) (.tmp 93) (by rfl) (nodeL s P) (nodeL s Q) (by rfl) (by rfl) (nodeL_length _ _) (nodeL_length _ _)
  try simp only [Act.put, List.setIfInBounds_toArray, List.set_cons_zero, List.set_cons_succ]
  have hPR : ((nodeL s P) ++ (nodeL s Q)).length = 64 := by rw [List.length_append]; have := nodeL_length; simp only [*]
  have RW : BArr W2 w.heap.size 75 zero64 := HR6.below hB2
  refine wpAnyH_ready (rs := [10]) (by kernel_rfl) (by simp) ?_
  refine' AllReadyH.cons (o := _) ?hi10 (fun K hK => ?_) AllReadyH.nil
  case hi10 => (simp only [List.getElem?_toArray, List.getElem?_cons_zero, List.getElem?_cons_succ]; rfl)
  rw [if_pos (by rfl)]
  refine step_store_pair (.tmp 9) (.tmp 94) rfl w.heap.size rfl zero64 ((nodeL s P) ++ (nodeL s Q)) HZ.out hPR RW rfl ?_
  have s6 := S6.out
  have l6 := HLT.out
  have r7 : BArr (W2.setRow w.heap.size (bvs ((nodeL s P) ++ (nodeL s Q))).toArray) w.heap.size 75 ((nodeL s P) ++ (nodeL s Q)) := RW.setRow _
  have hS9 : BArr (W2.setRow w.heap.size (bvs ((nodeL s P) ++ (nodeL s Q))).toArray) pb 75 (P ++ Q) ∧ BArr (W2.setRow w.heap.size (bvs ((nodeL s P) ++ (nodeL s Q))).toArray) sb 34 s :=
    ⟨hS2.1.setRow_other _ (by have := HPB0.out; omega) _, hS2.2.setRow_other _ (by have := HPB0.out; omega) _⟩
  refine hK.out _ _ hS9 (fun _ => ?_)
  clear hK K
  refine' wpAnyH_take (i := 11) (oi := _) (v := _) ?hi11 (by kernel_rfl) ?hf11 ?hr11 ?hQ11 ?hy11 hS9 ?rest11
  case hi11 => (simp only [List.getElem?_toArray, List.getElem?_cons_zero, List.getElem?_cons_succ]; rfl)
  case hf11 => kernel_rfl
  case hr11 => kernel_rfl
  case hQ11 => exact fun _ _ _ h => h
  case hy11 => refine Or.inl ⟨by rfl, ?_⟩; intro W hSw; go_simp; try with_reducible rfl
  try simp only [Act.put, List.setIfInBounds_toArray, List.set_cons_zero, List.set_cons_succ]
  refine wpAnyH_done (by kernel_rfl) ?_ _
  go_wp2
  refine bodyPost_ret_by (results_cell_tmp (p := 9) (q := 10) (ty := 75) (by kernel_rfl) _ _ ⟨w.heap.size, 0, none⟩ (sv ((nodeL s P) ++ (nodeL s Q))) rfl (run_load_pair _ _ _ hPR r7.at_)) rfl ?_
  have hb0 := HP.out.below.size
  have bu := BU6.out.trans (But.of_below hB2)
  exact ⟨rfl, ⟨A5, c5, (HK6.out.below_ hB2).setRow (by omega) ⟨by omega, by omega, by omega, by omega⟩ _⟩, ⟨bu.os, bu.tape, bu.output, by rw [setRow_size]; exact bu.size, fun b hb hne => (Go.setRow_other _ _ _ _ (by omega)).trans (bu.block b hb hne)⟩⟩

end

end Go.Proofs.YtllohbgejjbagaaDoor

/-
  links.ends' closure that leads, whole: all sums that it takes are there, or one is missing.
-/
namespace Go.Proofs.YtllohbgejjbagaaDoor
open Go.RowKit

section
variable {B : World} {ab lb nb gb n : Nat} {ys a : List Nat} {E : Addr}

theorem linkF_len (hlen : ys.length = 32 * n) (hal : a.length = 32) {size from_ j : Nat} {edge : Bool} (hh : j + ldep from_ size edge ≤ n) : (linkF (nth ys) a from_ size edge j).1.length = 32 ∧ (linkF (nth ys) a from_ size edge j).2.length = 32 :=
  linkF_of (P := fun l => l.length = 32) sha_length (nth ys) a hal size from_ edge j fun k hk => nth_length hlen (by omega)
theorem linkF_lt (hy : ∀ x ∈ ys, x < 256) (hab : ∀ x ∈ a, x < 256) (size from_ j : Nat) (edge : Bool) : (∀ x ∈ (linkF (nth ys) a from_ size edge j).1, x < 256) ∧ ∀ x ∈ (linkF (nth ys) a from_ size edge j).2, x < 256 :=
  linkF_of (P := fun l => ∀ x ∈ l, x < 256) sha_lt (nth ys) a hab size from_ edge j fun _ _ => nth_lt hy _

/-- What lead is asked, and what it answers. -/
def KCall (B : World) (ab lb nb gb n : Nat) (ys a : List Nat) (from_ size : Nat) (edge : Bool) (j : Nat) (P Q : List Nat) (ev : Value) (j' : Nat) : Prop :=
  ∀ (A : Option Addr) (c : Nat) (w : World), KIn B w ab lb nb gb n j A c ys a →
    Calls Tryd.prog 61 #[.int .u64 (from_ : Int), .int .u64 (size : Int), .bool edge, .pointer (some ⟨ab, 0, none⟩), .pointer (some ⟨nb, 0, none⟩), .pointer (some ⟨gb, 0, none⟩)] w (Led B w ab lb nb gb n ys a P Q ev j')

theorem klead_any (hn : n ≤ 1000000) (hy : ∀ x ∈ ys, x < 256) (hlen : ys.length = 32 * n) (hal : a.length = 32) (hab : ∀ x ∈ a, x < 256) (hk : Knows B) (hs : Starts B) (hm : Miss B E) :
    ∀ (size from_ j : Nat) (edge : Bool), 1 ≤ from_ → from_ ≤ size → size < 18446744073709551616 → j ≤ n →
      (j + ldep from_ size edge ≤ n → KCall B ab lb nb gb n ys a from_ size edge j (linkF (nth ys) a from_ size edge j).1 (linkF (nth ys) a from_ size edge j).2 .nilIface (j + ldep from_ size edge)) ∧
      (n < j + ldep from_ size edge → ∃ (P Q : List Nat) (j' : Nat), P.length = 32 ∧ Q.length = 32 ∧ KCall B ab lb nb gb n ys a from_ size edge j P Q (missV E) j') := by
  intro size
  induction size using Nat.strongRecOn with
  | ind size ih =>
    intro from_ j edge h1 hfs hz hj
    by_cases h2 : size < 2 ∨ from_ = size
    · obtain rfl : from_ = size := by omega
      rw [ldep_all h2, linkF_all _ _ h2]
      cases edge with
      | true =>
        refine ⟨fun _ A c w h => ?_, fun hh => ?_⟩
        · exact klead_edge h hal rfl
        · simp at hh; omega
      | false =>
        have hroot : KCall B ab lb nb gb n ys a from_ from_ false j (nxS ys n j) (nxS ys n j) (nxV E n j) (nxJ n j) := fun A c w h => klead_root h (nxS_length hlen j) rfl fun w' h' => knext_any h' hn hm
        refine ⟨fun hh => ?_, fun hh => ?_⟩
        · have hlt : j < n := by simp at hh; omega
          unfold nxS nxV nxJ at hroot
          rw [if_pos hlt, if_pos hlt, if_pos hlt] at hroot
          exact hroot
        · have hlt : ¬ j < n := by simp at hh; omega
          unfold nxV at hroot
          rw [if_neg hlt] at hroot
          exact ⟨_, _, _, nxS_length hlen j, nxS_length hlen j, hroot⟩
    · have hcl := cutN_lt (m := size) (by omega)
      have hcp := cutN_pos size
      by_cases ha : from_ ≤ cutN size
      · rw [ldep_low h2 ha, linkF_low _ _ h2 ha, ← Nat.add_assoc]
        have IH := ih (cutN size) hcl from_ j edge h1 ha (by omega) hj
        by_cases hd : j + ldep from_ (cutN size) edge ≤ n
        · have L := linkF_len (a := a) hlen hal hd
          have Lb := linkF_lt hy hab (cutN size) from_ j edge
          have hgo : KCall B ab lb nb gb n ys a from_ size edge j (linkF (nth ys) a from_ (cutN size) edge j).1 (nodeL (linkF (nth ys) a from_ (cutN size) edge j).2 (nxS ys n (j + ldep from_ (cutN size) edge))) (nxV E n (j + ldep from_ (cutN size) edge)) (nxJ n (j + ldep from_ (cutN size) edge)) :=
            fun A c w h => klead_low_go h L.1 L.2 (by omega) hz (by omega) ha (fun w' h' => IH.1 hd A c w' h') (fun w' A' c' h' => knext_any h' hn hm) (nxS_length hlen _) (nxS_lt hy n _) Lb.2 hk hs
          refine ⟨fun hh => ?_, fun hh => ?_⟩
          · have hlt : j + ldep from_ (cutN size) edge < n := by omega
            unfold nxS nxV nxJ at hgo
            rw [if_pos hlt, if_pos hlt, if_pos hlt] at hgo
            exact hgo
          · have hlt : ¬ j + ldep from_ (cutN size) edge < n := by omega
            unfold nxV at hgo
            rw [if_neg hlt] at hgo
            exact ⟨_, _, _, L.1, nodeL_length _ _, hgo⟩
        · obtain ⟨P, Q, j', hP, hQ, hc⟩ := IH.2 (by omega)
          refine ⟨fun hh => by omega, fun _ => ⟨P, Q, j', hP, hQ, fun A c w h => ?_⟩⟩
          exact klead_low_fall h hP hQ (by omega) hz (by omega) ha (fun w' h' => hc A c w' h')
      · rw [ldep_high h2 ha, linkF_high _ _ h2 ha, ← Nat.add_assoc]
        have IH := ih (size - cutN size) (by omega) (from_ - cutN size) j false (by omega) (by omega) (by omega) hj
        by_cases hd : j + ldep (from_ - cutN size) (size - cutN size) false ≤ n
        · have L := linkF_len (a := a) hlen hal hd
          have Lb := linkF_lt hy hab (size - cutN size) (from_ - cutN size) j false
          have hgo : KCall B ab lb nb gb n ys a from_ size edge j (nodeL (nxS ys n (j + ldep (from_ - cutN size) (size - cutN size) false)) (linkF (nth ys) a (from_ - cutN size) (size - cutN size) false j).1) (nodeL (nxS ys n (j + ldep (from_ - cutN size) (size - cutN size) false)) (linkF (nth ys) a (from_ - cutN size) (size - cutN size) false j).2) (nxV E n (j + ldep (from_ - cutN size) (size - cutN size) false)) (nxJ n (j + ldep (from_ - cutN size) (size - cutN size) false)) :=
            fun A c w h => klead_high_go h L.1 L.2 (by omega) hz (by omega) ha (fun w' h' => IH.1 hd A c w' h') (fun w' A' c' h' => knext_any h' hn hm) (nxS_length hlen _) (nxS_lt hy n _) Lb.1 Lb.2 hk hs
          refine ⟨fun hh => ?_, fun hh => ?_⟩
          · have hlt : j + ldep (from_ - cutN size) (size - cutN size) false < n := by omega
            unfold nxS nxV nxJ at hgo
            rw [if_pos hlt, if_pos hlt, if_pos hlt] at hgo
            exact hgo
          · have hlt : ¬ j + ldep (from_ - cutN size) (size - cutN size) false < n := by omega
            unfold nxV at hgo
            rw [if_neg hlt] at hgo
            exact ⟨_, _, _, nodeL_length _ _, nodeL_length _ _, hgo⟩
        · obtain ⟨P, Q, j', hP, hQ, hc⟩ := IH.2 (by omega)
          refine ⟨fun hh => by omega, fun _ => ⟨P, Q, j', hP, hQ, fun A c w h => ?_⟩⟩
          exact klead_high_fall h hP hQ (by omega) hz (by omega) ha (fun w' h' => hc A c w' h')
end

end Go.Proofs.YtllohbgejjbagaaDoor

/-
  links.ends: what a link leads to, how many of its sums are not taken, and whether one is missing.
-/
namespace Go.Proofs.YtllohbgejjbagaaDoor
open Go.RowKit

/-- Three results, of which the first lies in memory. -/
theorem results_cell_tmp2 {P : Program} {fn : Func} {p q r : Tmp} {ty : TypeId} (h : fn.results = #[.cell p ty, .tmp q, .tmp r]) (tmps : Array Value) (w : World) (ad : Addr) (v : Value)
    (hp : tmps.getD p undef = .pointer (some ad)) (hl : (loadVar ty ad).run P w = .ok v w) : (results fn tmps).run P w = .ok (.tuple #[v, tmps.getD q undef, tmps.getD r undef]) w := by
  have hp' : tmps[p]?.getD undef = .pointer (some ad) := by simpa using hp
  simp [results, h, hp', asAddr, hl]

/-- The world in which ends calls lead. -/
structure KEndsIn (w w1 : World) (a : List Nat) (A : Option Addr) (n c g : Nat) : Prop where
  sum : BArr w1 g 34 a
  link : VarAt w1 (g + 1) 37 (.slice A n c)
  res : BArr w1 (g + 2) 75 zero64
  nxt : VarAt w1 (g + 3) 96 (takesK (g + 1))
  led : VarAt w1 (g + 4) 97 (leadsK g (g + 3) (g + 4))
  below : Below w.heap.size w w1
  size : w1.heap.size = g + 5
theorem kendsIn_of (w : World) (a : List Nat) (A : Option Addr) (n c g : Nat) (hg : w.heap.size = g) :
    KEndsIn w (((((w.alloc (.cells (bvs a).toArray 34)).alloc (.cells #[.slice A n c] 37)).alloc (.cells (bvs zero64).toArray 75)).alloc (.cells #[takesK (g + 1)] 96)).alloc (.cells #[leadsK g (g + 3) (g + 4)] 97)) a A n c g := by
  have h0 := BArr.new w 34 a
  obtain ⟨w0, e0⟩ : ∃ w0, w0 = w.alloc (.cells (bvs a).toArray 34) := ⟨_, rfl⟩
  have b0 := below_alloc w (.cells (bvs a).toArray 34)
  have s0 : w0.heap.size = g + 1 := by rw [e0]; simp [hg]
  rw [← e0] at h0 b0 ⊢
  have h1 := VarAt.new w0 37 (.slice A n c)
  obtain ⟨w1, e1⟩ : ∃ w1, w1 = w0.alloc (.cells #[.slice A n c] 37) := ⟨_, rfl⟩
  have b1 := below_alloc w0 (.cells #[.slice A n c] 37)
  have s1 : w1.heap.size = g + 2 := by rw [e1]; simp [s0]
  rw [← e1] at h1 b1 ⊢
  have h2 := BArr.new w1 75 zero64
  obtain ⟨w2, e2⟩ : ∃ w2, w2 = w1.alloc (.cells (bvs zero64).toArray 75) := ⟨_, rfl⟩
  have b2 := below_alloc w1 (.cells (bvs zero64).toArray 75)
  have s2 : w2.heap.size = g + 3 := by rw [e2]; simp [s1]
  rw [← e2] at h2 b2 ⊢
  have h3 := VarAt.new w2 96 (takesK (g + 1))
  obtain ⟨w3, e3⟩ : ∃ w3, w3 = w2.alloc (.cells #[takesK (g + 1)] 96) := ⟨_, rfl⟩
  have b3 := below_alloc w2 (.cells #[takesK (g + 1)] 96)
  have s3 : w3.heap.size = g + 4 := by rw [e3]; simp [s2]
  rw [← e3] at h3 b3 ⊢
  have h4 := VarAt.new w3 97 (leadsK g (g + 3) (g + 4))
  have b4 := below_alloc w3 (.cells #[leadsK g (g + 3) (g + 4)] 97)
  rw [hg] at h0
  rw [s0] at h1
  rw [s1] at h2
  rw [s2] at h3
  rw [s3] at h4
  exact ⟨(((h0.below b1).below b2).below b3).below b4, ((h1.below b2).below b3).below b4, (h2.below b3).below b4, h3.below b4, h4,
    below_on (below_on (below_on (below_on b0 (Nat.le_refl _) b1) (Nat.le_refl _) b2) (Nat.le_refl _) b3) (Nat.le_refl _) b4, by simp [s3]⟩

section
variable {w : World} {n c : Nat} {A : Option Addr} {ys a : List Nat} {E : Addr} {from_ size : Nat}

set_option maxRecDepth 100000 in
set_option maxHeartbeats 4000000 in
theorem kends_at {P Q : List Nat} {ev : Value} {j' g m : Nat} (hm : n - j' = m) (hg : w.heap.size = g) (hin : InS w A n ys) (hc : n ≤ c) (hPl : P.length = 32) (hQl : Q.length = 32)
    (cl : KCall w g (g + 1) (g + 3) (g + 4) n ys a from_ size true 0 P Q ev j') :
    Calls Tryd.prog 40 #[.int .u64 (from_ : Int), .int .u64 (size : Int), sv a, .slice A n c] w fun e w' => e = .returned (.tuple #[sv (P ++ Q), .int .i64 (m : Int), ev]) ∧ Below w.heap.size w w' := by
  have HM := Lib.hid hm
  have e0 : (bvs zero64).toArray = #[.int .u8 0, .int .u8 0, .int .u8 0, .int .u8 0, .int .u8 0, .int .u8 0, .int .u8 0, .int .u8 0, .int .u8 0, .int .u8 0, .int .u8 0, .int .u8 0, .int .u8 0, .int .u8 0, .int .u8 0, .int .u8 0, .int .u8 0, .int .u8 0, .int .u8 0, .int .u8 0, .int .u8 0, .int .u8 0, .int .u8 0, .int .u8 0, .int .u8 0, .int .u8 0, .int .u8 0, .int .u8 0, .int .u8 0, .int .u8 0, .int .u8 0, .int .u8 0, .int .u8 0, .int .u8 0, .int .u8 0, .int .u8 0, .int .u8 0, .int .u8 0, .int .u8 0, .int .u8 0, .int .u8 0, .int .u8 0, .int .u8 0, .int .u8 0, .int .u8 0, .int .u8 0, .int .u8 0, .int .u8 0, .int .u8 0, .int .u8 0, .int .u8 0, .int .u8 0, .int .u8 0, .int .u8 0, .int .u8 0, .int .u8 0, .int .u8 0, .int .u8 0, .int .u8 0, .int .u8 0, .int .u8 0, .int .u8 0, .int .u8 0, .int .u8 0] := rfl
  have h1 := kendsIn_of w a A n c g hg
  rw [e0] at h1
  clear e0
  have hmf : ∀ (fn : Fn) (first cap : Array Value) (w : World), (Instr.makeFunc fn first cap).run Tryd.prog w = .ok (.func fn first cap) w := fun _ _ _ _ => rfl
  unfold takesK leadsK at h1
  obtain ⟨w1, hw1⟩ : ∃ w1, w1 = ((((w.alloc (.cells (bvs a).toArray 34)).alloc (.cells #[.slice A n c] 37)).alloc (.cells #[.int .u8 0, .int .u8 0, .int .u8 0, .int .u8 0, .int .u8 0, .int .u8 0, .int .u8 0, .int .u8 0, .int .u8 0, .int .u8 0, .int .u8 0, .int .u8 0, .int .u8 0, .int .u8 0, .int .u8 0, .int .u8 0, .int .u8 0, .int .u8 0, .int .u8 0, .int .u8 0, .int .u8 0, .int .u8 0, .int .u8 0, .int .u8 0, .int .u8 0, .int .u8 0, .int .u8 0, .int .u8 0, .int .u8 0, .int .u8 0, .int .u8 0, .int .u8 0, .int .u8 0, .int .u8 0, .int .u8 0, .int .u8 0, .int .u8 0, .int .u8 0, .int .u8 0, .int .u8 0, .int .u8 0, .int .u8 0, .int .u8 0, .int .u8 0, .int .u8 0, .int .u8 0, .int .u8 0, .int .u8 0, .int .u8 0, .int .u8 0, .int .u8 0, .int .u8 0, .int .u8 0, .int .u8 0, .int .u8 0, .int .u8 0, .int .u8 0, .int .u8 0, .int .u8 0, .int .u8 0, .int .u8 0, .int .u8 0, .int .u8 0, .int .u8 0] 75)).alloc (.cells #[.func (.func 60) #[] #[.pointer (some ⟨g + 1, 0, none⟩)]] 96)).alloc (.cells #[.func (.func 61) #[] #[.pointer (some ⟨g, 0, none⟩), .pointer (some ⟨g + 3, 0, none⟩), .pointer (some ⟨g + 4, 0, none⟩)]] 97) := ⟨_, rfl⟩
  rw [← hw1] at h1
  have k1 : KIn w w1 g (g + 1) (g + 3) (g + 4) n 0 A c ys a := ⟨h1.link, hin, hc, Nat.zero_le _, h1.sum, h1.nxt, h1.led, h1.below, by omega, ⟨by omega, by omega, by omega⟩⟩
  have CL := Lib.hid (cl A c w1 k1)
  have H1 := Lib.hid h1
  have HW := Lib.hid hw1
  have HG := Lib.hid hg
  have l1 := h1.led.cell
  have hPQ : (P ++ Q).length = 64 := by rw [List.length_append]; omega
  have HZ := Lib.hid (show zero64.length = 64 from rfl)
  clear h1 hw1 k1 cl hin hc hm
  unfold sv
  go_enter Tryd.func40, Tryd.ntmps40
  go_upto_region 4 with fail
  rw [show g + 1 + 1 = g + 2 from rfl, show g + 2 + 1 = g + 3 from rfl, show g + 3 + 1 = g + 4 from rfl]
  rw [← HW.out]
  clear hg
  unfold leadsK at l1
  go_wp2_with fail
  refine CL.out.mono ?_
  rintro e w2 ⟨rfl, ⟨A2, c2, hk2⟩, hb2⟩
  have v2 := hk2.var
  rw [HM.out] at v2
  have r2 : BArr w2 (g + 2) 75 zero64 := (hb2.block _ H1.out.res.lt (by omega)).trans H1.out.res
  have B2 := Lib.hid (H1.out.below.trans (hb2.below (by have := H1.out.size; have := HG.out; omega) (fun b e => by have := HG.out; omega)))
  have V2 := Lib.hid v2
  clear hk2 hb2 v2
  go_upto_region 5 with (with_reducible refine wpList_store_pair rfl (.tmp 8) (.tmp 20) rfl (g + 2) rfl zero64 (P ++ Q) HZ.out hPQ r2 rfl ?_)
  have r3 : BArr (w2.setRow (g + 2) (bvs (P ++ Q)).toArray) (g + 2) 75 (P ++ Q) := r2.setRow _
  have v3 := V2.out.setRow_other (g + 2) (by omega) (bvs (P ++ Q)).toArray
  have b3 : Below w.heap.size w (w2.setRow (g + 2) (bvs (P ++ Q)).toArray) := below_setRow B2.out (by have := HG.out; omega) _
  obtain ⟨w3, hw3⟩ : ∃ w3, w3 = w2.setRow (g + 2) (bvs (P ++ Q)).toArray := ⟨_, rfl⟩
  rw [← hw3] at r3 v3 b3 ⊢
  have B3 := Lib.hid b3
  clear hw3 r2 b3
  have hS : BArr w3.drew (g + 2) 75 (P ++ Q) ∧ VarAt w3.drew (g + 1) 37 (.slice A2 m c2) := ⟨r3, v3⟩
  refine wp_region_held (S := fun W => BArr W (g + 2) 75 (P ++ Q) ∧ VarAt W (g + 1) 37 (.slice A2 m c2)) (by kernel_rfl) ?_
  change wpAnyH _ _ _ _ _ _ _ _ w3.drew
  refine' wpAnyH_take (i := 0) (oi := _) (v := sv (P ++ Q)) ?hi0 (by kernel_rfl) ?hf0 ?hr0 ?hQ0 ?hy0 hS ?rest0
  case hi0 => (simp only [List.getElem?_toArray, List.getElem?_cons_zero]; rfl)
  case hf0 => kernel_rfl
  case hr0 => kernel_rfl
  case hQ0 => exact fun _ _ _ h => h
  case hy0 => exact yields_pair (by rfl) (.tmp 8) (by rfl) _ (by rfl) (P ++ Q) hPQ (fun W hSw => hSw.1.at_)
  try simp only [Act.put, List.setIfInBounds_toArray, List.set_cons_zero, List.set_cons_succ]
  refine' wpAnyH_take (i := 1) (oi := _) (v := _) ?hi1 (by kernel_rfl) ?hf1 ?hr1 ?hQ1 ?hy1 hS ?rest1
  case hi1 => (simp only [List.getElem?_toArray, List.getElem?_cons_zero, List.getElem?_cons_succ]; rfl)
  case hf1 => kernel_rfl
  case hr1 => kernel_rfl
  case hQ1 => exact fun _ _ _ h => h
  case hy1 => refine Or.inl ⟨by rfl, ?_⟩; intro W hSw; have s0 := hSw.2.cell; go_simp; try with_reducible rfl
  try simp only [Act.put, List.setIfInBounds_toArray, List.set_cons_zero, List.set_cons_succ]
  refine' wpAnyH_take (i := 2) (oi := _) (v := _) ?hi2 (by kernel_rfl) ?hf2 ?hr2 ?hQ2 ?hy2 hS ?rest2
  case hi2 => (simp only [List.getElem?_toArray, List.getElem?_cons_zero, List.getElem?_cons_succ]; rfl)
  case hf2 => kernel_rfl
  case hr2 => kernel_rfl
  case hQ2 => exact fun _ _ _ h => h
  case hy2 => refine Or.inl ⟨by rfl, ?_⟩; intro W hSw; have s0 := hSw.2.cell; go_simp; try with_reducible rfl
  try simp only [Act.put, List.setIfInBounds_toArray, List.set_cons_zero, List.set_cons_succ]
  refine' wpAnyH_take (i := 3) (oi := _) (v := _) ?hi3 (by kernel_rfl) ?hf3 ?hr3 ?hQ3 ?hy3 hS ?rest3
  case hi3 => (simp only [List.getElem?_toArray, List.getElem?_cons_zero, List.getElem?_cons_succ]; rfl)
  case hf3 => kernel_rfl
  case hr3 => kernel_rfl
  case hQ3 => exact fun _ _ _ h => h
  case hy3 => refine Or.inl ⟨by rfl, ?_⟩; intro W hSw; have s0 := hSw.2.cell; go_simp; try with_reducible rfl
  try simp only [Act.put, List.setIfInBounds_toArray, List.set_cons_zero, List.set_cons_succ]
  refine wpAnyH_ready (rs := [4]) (by kernel_rfl) (by simp) ?_
  refine' AllReadyH.cons (o := _) ?hin (fun K3 hK3 => ?_) AllReadyH.nil
  case hin => (simp only [List.getElem?_toArray, List.getElem?_cons_zero, List.getElem?_cons_succ]; rfl)
  rw [if_pos (by rfl)]
  refine step_store_pair (.tmp 8) (.tmp 22) rfl (g + 2) rfl (P ++ Q) (P ++ Q) hPQ hPQ hS.1 rfl ?_
  have r5 : BArr (w3.drew.setRow (g + 2) (bvs (P ++ Q)).toArray) (g + 2) 75 (P ++ Q) := hS.1.setRow _
  have b5 : Below w.heap.size w (w3.drew.setRow (g + 2) (bvs (P ++ Q)).toArray) := below_setRow B3.out.drew (by have := HG.out; omega) _
  have hS5 : BArr (w3.drew.setRow (g + 2) (bvs (P ++ Q)).toArray) (g + 2) 75 (P ++ Q) ∧ VarAt (w3.drew.setRow (g + 2) (bvs (P ++ Q)).toArray) (g + 1) 37 (.slice A2 m c2) := ⟨r5, hS.2.setRow_other _ (by omega) _⟩
  obtain ⟨w5, hw5⟩ : ∃ w5, w5 = w3.drew.setRow (g + 2) (bvs (P ++ Q)).toArray := ⟨_, rfl⟩
  rw [← hw5] at r5 b5 hS5 ⊢
  refine hK3.out _ _ hS5 (fun _ => ?_)
  clear hK3 K3 hw5
  refine' wpAnyH_take (i := 5) (oi := _) (v := _) ?hi5 (by kernel_rfl) ?hf5 ?hr5 ?hQ5 ?hy5 hS5 ?rest5
  case hi5 => (simp only [List.getElem?_toArray, List.getElem?_cons_zero, List.getElem?_cons_succ]; rfl)
  case hf5 => kernel_rfl
  case hr5 => kernel_rfl
  case hQ5 => exact fun _ _ _ h => h
  case hy5 => refine Or.inl ⟨by rfl, ?_⟩; intro W hSw; have s0 := hSw.2.cell; go_simp; try with_reducible rfl
  try simp only [Act.put, List.setIfInBounds_toArray, List.set_cons_zero, List.set_cons_succ]
  refine' wpAnyH_take (i := 6) (oi := _) (v := _) ?hi6 (by kernel_rfl) ?hf6 ?hr6 ?hQ6 ?hy6 hS5 ?rest6
  case hi6 => (simp only [List.getElem?_toArray, List.getElem?_cons_zero, List.getElem?_cons_succ]; rfl)
  case hf6 => kernel_rfl
  case hr6 => kernel_rfl
  case hQ6 => exact fun _ _ _ h => h
  case hy6 => refine Or.inl ⟨by rfl, ?_⟩; intro W hSw; have s0 := hSw.2.cell; go_simp; try with_reducible rfl
  try simp only [Act.put, List.setIfInBounds_toArray, List.set_cons_zero, List.set_cons_succ]
  refine wpAnyH_done (by kernel_rfl) ?_ _
  go_wp2
  refine bodyPost_ret_by (results_cell_tmp2 (p := 8) (q := 9) (r := 10) (ty := 75) (by kernel_rfl) _ _ ⟨g + 2, 0, none⟩ (sv (P ++ Q)) rfl (run_load_pair _ _ _ hPQ r5.at_)) rfl ?_
  exact ⟨rfl, b5⟩

/-- Both sums and how many are left; or one is missing. -/
theorem kends_yes (hn : n ≤ 1000000) (hin : InS w A n ys) (hy : ∀ x ∈ ys, x < 256) (hc : n ≤ c) (hal : a.length = 32) (hab : ∀ x ∈ a, x < 256) (hk : Knows w) (hs : Starts w) (hm : Miss w E) (h1 : 1 ≤ from_) (hfs : from_ ≤ size) (hz : size < 18446744073709551616) (hd : ldep from_ size true ≤ n) :
    Calls Tryd.prog 40 #[.int .u64 (from_ : Int), .int .u64 (size : Int), sv a, .slice A n c] w fun e w' => e = .returned (.tuple #[sv ((linkF (nth ys) a from_ size true 0).1 ++ (linkF (nth ys) a from_ size true 0).2), .int .i64 ((n - ldep from_ size true : Nat) : Int), .nilIface]) ∧ Below w.heap.size w w' := by
  have L := linkF_len (a := a) (j := 0) (edge := true) hin.len hal (size := size) (from_ := from_) (by omega)
  have C := (klead_any (ab := w.heap.size) (lb := w.heap.size + 1) (nb := w.heap.size + 3) (gb := w.heap.size + 4) hn hy hin.len hal hab hk hs hm size from_ 0 true h1 hfs hz (Nat.zero_le _)).1 (by omega)
  rw [Nat.zero_add] at C
  exact kends_at rfl rfl hin hc L.1 L.2 C
theorem kends_no (hn : n ≤ 1000000) (hin : InS w A n ys) (hy : ∀ x ∈ ys, x < 256) (hc : n ≤ c) (hal : a.length = 32) (hab : ∀ x ∈ a, x < 256) (hk : Knows w) (hs : Starts w) (hm : Miss w E) (h1 : 1 ≤ from_) (hfs : from_ ≤ size) (hz : size < 18446744073709551616) (hd : n < ldep from_ size true) :
    ∃ P Q : List Nat, ∃ m : Nat, P.length = 32 ∧ Q.length = 32 ∧ Calls Tryd.prog 40 #[.int .u64 (from_ : Int), .int .u64 (size : Int), sv a, .slice A n c] w fun e w' => e = .returned (.tuple #[sv (P ++ Q), .int .i64 (m : Int), missV E]) ∧ Below w.heap.size w w' := by
  obtain ⟨P, Q, j', hP, hQ, C⟩ := (klead_any (ab := w.heap.size) (lb := w.heap.size + 1) (nb := w.heap.size + 3) (gb := w.heap.size + 4) hn hy hin.len hal hab hk hs hm size from_ 0 true h1 hfs hz (Nat.zero_le _)).2 (by omega)
  exact ⟨P, Q, n - j', hP, hQ, kends_at rfl rfl hin hc hP hQ C⟩

end

end Go.Proofs.YtllohbgejjbagaaDoor

/-
  links.Check.
-/
namespace Go.Proofs.YtllohbgejjbagaaDoor
open Go.RowKit

theorem wpList_load_pair_g {ops : Array Oper} {rest : List Oper} {o : Oper} {a : Act} {w : World} {Q : Exit → Act → World → Prop} (hw : Region.wanted o (yielded ops a.tmps) = true) (x : Operand) (ho : o.op = .load 75 x)
    (ad : Addr) (hx : a.eval x = .pointer (some ad)) (s : List Nat) (hl : s.length = 64) (hc : At w ad s)
    (h : wpList Tryd.prog ops Q rest (a.put o.dst (sv s)) w) : wpList Tryd.prog ops Q (o :: rest) a w := by
  refine wpList_step fun K hK => ?_
  rw [if_pos hw]
  unfold Oper.wp execOp
  simp only [ho, hx, Instr.loadAt, Instr.sureAddr, Sem.run_bind, Sem.run_pure, Result.andThen_ok, run_load_pair w ad s hl hc]
  exact hK _ _ h
theorem wpList_build_pair_g {ops : Array Oper} {rest : List Oper} {o : Oper} {a : Act} {w : World} {Q : Exit → Act → World → Prop} (hw : Region.wanted o (yielded ops a.tmps) = true) (u v : Operand) (ho : o.op = .build 75 #[(0, u), (1, v)])
    (x y : List Nat) (hu : a.eval u = sv x) (hv : a.eval v = sv y) (hx : x.length = 32) (hy : y.length = 32)
    (h : wpList Tryd.prog ops Q rest (a.put o.dst (sv (x ++ y))) w) : wpList Tryd.prog ops Q (o :: rest) a w := by
  refine wpList_step fun K hK => ?_
  rw [if_pos hw]
  unfold Oper.wp
  rw [run_build_op u v ho x y hu hv hx hy]
  exact hK _ _ h

/-- The world in which Check begins. -/
structure KCheckIn (w w1 : World) (a b : List Nat) : Prop where
  old : BArr w1 w.heap.size 34 a
  new : BArr w1 (w.heap.size + 1) 34 b
  below : Below w.heap.size w w1
  size : w1.heap.size = w.heap.size + 2
theorem kcheckIn_of (w : World) (a b : List Nat) : KCheckIn w ((w.alloc (.cells (bvs a).toArray 34)).alloc (.cells (bvs b).toArray 34)) a b := by
  have f0 := (BArr.new w 34 a).alloc (.cells (bvs b).toArray 34)
  have f1 := BArr.new (w.alloc (.cells (bvs a).toArray 34)) 34 b
  rw [World.size_alloc] at f1
  exact ⟨f0, f1, (below_alloc w _).alloc (by simp) _, by simp⟩

section
variable {w : World} {n c : Nat} {A : Option Addr} {ys a b : List Nat} {E : Addr} {from_ size : Nat}

set_option maxRecDepth 100000 in
set_option maxHeartbeats 2000000 in
theorem kcheck_far (hge : ¬ (1 ≤ from_ ∧ from_ ≤ size)) :
    Calls Tryd.prog 21 #[.int .u64 (from_ : Int), .int .u64 (size : Int), sv a, sv b, .slice A n c] w fun e w' => e = .returned (.bool false) ∧ Below w.heap.size w w' := by
  have H1 := Lib.hid (kcheckIn_of w a b)
  unfold sv
  by_cases h1 : from_ < 1
  · have hi : (from_ : Int) < 1 := by omega
    go_enter Tryd.func21, Tryd.ntmps21
    go_wp2_with fail
    go_ret
    exact ⟨rfl, H1.out.below⟩
  · have hi : ¬ (from_ : Int) < 1 := by omega
    have hd : decide ((from_ : Int) < 1) = false := by simp; omega
    have hj : (size : Int) < (from_ : Int) := by omega
    go_enter Tryd.func21, Tryd.ntmps21
    go_wp2_with fail
    go_ret
    exact ⟨rfl, H1.out.below⟩

set_option maxRecDepth 100000 in
set_option maxHeartbeats 2000000 in
theorem kcheck_no (hl : a.length = 32) (h1 : 1 ≤ from_) (hlt : from_ ≤ size) (hm : Miss w E)
    (ce : ∀ w' : World, Below w.heap.size w w' → ∃ P Q : List Nat, ∃ m : Nat, P.length = 32 ∧ Q.length = 32 ∧ Calls Tryd.prog 40 #[.int .u64 (from_ : Int), .int .u64 (size : Int), sv a, .slice A n c] w' fun e w'' => e = .returned (.tuple #[sv (P ++ Q), .int .i64 (m : Int), missV E]) ∧ Below w'.heap.size w' w'') :
    Calls Tryd.prog 21 #[.int .u64 (from_ : Int), .int .u64 (size : Int), sv a, sv b, .slice A n c] w fun e w' => e = .returned (.bool false) ∧ Below w.heap.size w w' := by
  obtain ⟨w1, hw1⟩ : ∃ w1, w1 = (w.alloc (.cells (bvs a).toArray 34)).alloc (.cells (bvs b).toArray 34) := ⟨_, rfl⟩
  have k1 := kcheckIn_of w a b
  rw [← hw1] at k1
  have H1 := Lib.hid k1
  have HW := Lib.hid hw1
  obtain ⟨P, Q, m, hPl, hQl, ce1⟩ := ce w1 k1.below
  have CE := Lib.hid ce1
  have hi : ¬ (from_ : Int) < 1 := by omega
  have hd : decide ((from_ : Int) < 1) = false := by simp; omega
  have hj : ¬ (size : Int) < (from_ : Int) := by omega
  have hA := Lib.hid k1.old.at_
  have hPQ : (P ++ Q).length = 64 := by rw [List.length_append]; omega
  have HM := Lib.hid hm
  have mv : missV E = .iface 144 (.pointer (some E)) := rfl
  clear k1 hw1 ce ce1 hlt hm h1
  unfold sv
  go_enter Tryd.func21, Tryd.ntmps21
  go_upto_region 1 with fail
  rw [← HW.out]
  go_wp2_with (with_reducible refine wpList_load_sum rfl (.tmp 7) rfl ⟨w.heap.size, 0, none⟩ rfl a hl hA.out ?_)
  refine CE.out.mono ?_
  rintro e w2 ⟨rfl, hb2⟩
  rw [mv]
  have m2 := (HM.out.below H1.out.below).below hb2
  unfold Miss at m2
  rw [mv] at m2
  have B2 := Lib.hid (below_on H1.out.below (Nat.le_refl _) hb2)
  have b3 := below_alloc w2 (.cells (bvs (P ++ Q)).toArray 75)
  have m3 := (b3.cell (World.block_lt_of_cell? w2 _ m2)).trans m2
  have HB3 := Lib.hid b3
  clear m2 hb2 b3 mv
  go_upto_region 4 with (with_reducible refine wpList_store_newP w2 _ rfl rfl (.tmp 11) (.tmp 27) rfl rfl (P ++ Q) hPQ rfl ?_)
  obtain ⟨w3, hw3⟩ : ∃ w3, w3 = w2.alloc (.cells (bvs (P ++ Q)).toArray 75) := ⟨_, rfl⟩
  rw [← hw3] at m3 HB3 ⊢
  clear hw3
  go_wp2_with fail
  refine (is_same E w3).mono ?_
  rintro e w4 ⟨rfl, rfl⟩
  go_wp2_with fail
  go_ret
  exact ⟨rfl, below_on B2.out (Nat.le_refl _) HB3.out⟩

set_option maxRecDepth 100000 in
set_option maxHeartbeats 4000000 in
theorem kcheck_at {P Q : List Nat} {m : Nat} (z : Bool) (hmz : ((m : Int) == 0) = z) (hPl : P.length = 32) (hQl : Q.length = 32) (hl : a.length = 32) (hbl : b.length = 32) (h1 : 1 ≤ from_) (hlt : from_ ≤ size) (hm : Miss w E)
    (ce : ∀ w' : World, Below w.heap.size w w' → Calls Tryd.prog 40 #[.int .u64 (from_ : Int), .int .u64 (size : Int), sv a, .slice A n c] w' fun e w'' => e = .returned (.tuple #[sv (P ++ Q), .int .i64 (m : Int), .nilIface]) ∧ Below w'.heap.size w' w'') :
    Calls Tryd.prog 21 #[.int .u64 (from_ : Int), .int .u64 (size : Int), sv a, sv b, .slice A n c] w fun e w' => e = .returned (.bool (z && (decide (P = a) && decide (Q = b)))) ∧ Below w.heap.size w w' := by
  obtain ⟨w1, hw1⟩ : ∃ w1, w1 = (w.alloc (.cells (bvs a).toArray 34)).alloc (.cells (bvs b).toArray 34) := ⟨_, rfl⟩
  have k1 := kcheckIn_of w a b
  rw [← hw1] at k1
  have H1 := Lib.hid k1
  have HW := Lib.hid hw1
  have CE := Lib.hid (ce w1 k1.below)
  have hi : ¬ (from_ : Int) < 1 := by omega
  have hd : decide ((from_ : Int) < 1) = false := by simp; omega
  have hj : ¬ (size : Int) < (from_ : Int) := by omega
  have hA := Lib.hid k1.old.at_
  have hPQ : (P ++ Q).length = 64 := by rw [List.length_append]; omega
  have HM := Lib.hid hm
  have HZ := Lib.hid hmz
  have mv : missV E = .iface 144 (.pointer (some E)) := rfl
  have q1 := run_eql_pair P Q a b hPl hQl hl hbl
  have q2 := fun x y => run_guard_pair x y (P ++ Q) (a ++ b)
  clear k1 hw1 ce hlt hm h1 hmz
  unfold sv
  go_enter Tryd.func21, Tryd.ntmps21
  go_upto_region 1 with fail
  rw [← HW.out]
  go_wp2_with (with_reducible refine wpList_load_sum rfl (.tmp 7) rfl ⟨w.heap.size, 0, none⟩ rfl a hl hA.out ?_)
  refine CE.out.mono ?_
  rintro e w2 ⟨rfl, hb2⟩
  have m2 := (HM.out.below H1.out.below).below hb2
  unfold Miss at m2
  rw [mv] at m2
  have B2 := Lib.hid (below_on H1.out.below (Nat.le_refl _) hb2)
  have b3 := below_alloc w2 (.cells (bvs (P ++ Q)).toArray 75)
  have g3 := BArr.new w2 75 (P ++ Q)
  have m3 := (b3.cell (World.block_lt_of_cell? w2 _ m2)).trans m2
  have O3 := Lib.hid ((H1.out.old.below hb2).below b3).at_
  have N3 := Lib.hid ((H1.out.new.below hb2).below b3).at_
  have HB3 := Lib.hid b3
  have HG3 := Lib.hid g3.at_
  clear m2 hb2 b3 mv g3
  go_upto_region 4 with (with_reducible refine wpList_store_newP w2 _ rfl rfl (.tmp 11) (.tmp 27) rfl rfl (P ++ Q) hPQ rfl ?_)
  obtain ⟨w3, hw3⟩ : ∃ w3, w3 = w2.alloc (.cells (bvs (P ++ Q)).toArray 75) := ⟨_, rfl⟩
  rw [← hw3] at m3 HB3 O3 N3 HG3 ⊢
  clear hw3
  go_wp2_with fail
  refine (is_nil E w3).mono ?_
  rintro e w4 ⟨rfl, rfl⟩
  have hmz := HZ.out
  cases z
  · go_wp2_with fail
    go_ret
    exact ⟨rfl, below_on B2.out (Nat.le_refl _) HB3.out⟩
  · go_upto_region 6 with fail
    refine wp_region_lit ?_
    refine wpList_plain rfl fun K hK => ?_
    go_simp
    refine hK _ _ ?_
    clear hK K
    refine wpList_plain rfl fun K hK => ?_
    go_simp
    refine hK _ _ ?_
    clear hK K
    refine wpList_plain rfl fun K hK => ?_
    go_simp
    refine hK _ _ ?_
    clear hK K
    refine wpList_load_pair_g rfl (.tmp 11) rfl ⟨w2.heap.size, 0, none⟩ rfl (P ++ Q) hPQ HG3.out ?_
    refine wpList_load_sum_g rfl (.tmp 7) rfl ⟨w.heap.size, 0, none⟩ rfl a hl O3.out ?_
    refine wpList_load_sum_g rfl (.tmp 8) rfl ⟨w.heap.size + 1, 0, none⟩ rfl b hbl N3.out ?_
    refine wpList_build_pair_g rfl (.tmp 37) (.tmp 38) rfl a b rfl rfl hl hbl ?_
    simp only [Act.put, List.setIfInBounds_toArray, List.set_cons_zero, List.set_cons_succ]
    go_wp2_with fail
    go_ret
    exact ⟨rfl, below_on B2.out (Nat.le_refl _) HB3.out⟩

/-- Whether a tree of so many leaves begins another one, by that link. -/
def begins (ys a b : List Nat) (n from_ size : Nat) : Bool := decide (1 ≤ from_ ∧ from_ ≤ size) && (decide (ldep from_ size true = n) && (decide ((linkF (nth ys) a from_ size true 0).1 = a) && decide ((linkF (nth ys) a from_ size true 0).2 = b)))

theorem kcheck_any (hin : InS w A n ys) (hy : ∀ x ∈ ys, x < 256) (hc : n ≤ c) (hn : n ≤ 1000000) (hal : a.length = 32) (hab : ∀ x ∈ a, x < 256) (hbl : b.length = 32) (hz : size < 18446744073709551616) (hk : Knows w) (hs : Starts w) (hm : Miss w E) :
    Calls Tryd.prog 21 #[.int .u64 (from_ : Int), .int .u64 (size : Int), sv a, sv b, .slice A n c] w fun e w' => e = .returned (.bool (begins ys a b n from_ size)) ∧ Below w.heap.size w w' := by
  unfold begins
  by_cases hat : 1 ≤ from_ ∧ from_ ≤ size
  · rw [decide_eq_true hat, Bool.true_and]
    by_cases hd : ldep from_ size true ≤ n
    · have L := linkF_len (a := a) (j := 0) (edge := true) hin.len hal (size := size) (from_ := from_) (by omega)
      exact kcheck_at _ (by
          by_cases he : ldep from_ size true = n
          · simp [he]
          · have : ¬ n - ldep from_ size true = 0 := by omega
            simp [he]; omega) L.1 L.2 hal hbl hat.1 hat.2 hm fun w' hb' => kends_yes hn (hin.below hb') hy hc hal hab (hk.below hb') (hs.below hb') (hm.below hb') hat.1 hat.2 hz hd
    · rw [decide_eq_false (p := ldep from_ size true = n) (by omega), Bool.false_and]
      exact kcheck_no hal hat.1 hat.2 hm fun w' hb' => kends_no hn (hin.below hb') hy hc hal hab (hk.below hb') (hs.below hb') (hm.below hb') hat.1 hat.2 hz (by omega)
  · rw [decide_eq_false hat, Bool.false_and]
    exact kcheck_far hat
end

end Go.Proofs.YtllohbgejjbagaaDoor

/-
  What the laws of layer 12 that ask Check share.
-/
namespace Go.Proofs.YtllohbgejjbagaaDoor
open Go.RowKit

theorem hpath_in (f : Nat → List Nat) (h32 : ∀ j, (f j).length = 32) {k n d : Nat} (hk : k < n) (hd : dep k n = d) : inTree (pathL f 0 n k).flatten (f k) (rt f 0 n) d k n = true := by
  have hl := pathL_len32 f n 0 k (fun j _ => h32 _)
  have := lead_path f (nth (pathL f 0 n k).flatten) n 0 k 0 (by omega) hk (fun j x hx => by rw [Nat.zero_add]; exact nth_flatten _ hl j x hx)
  rw [Nat.zero_add] at this
  unfold inTree
  rw [this, decide_eq_true hk, decide_eq_true hd]
  simp
theorem hlink_in (f : Nat → List Nat) (h32 : ∀ j, (f j).length = 32) {k n d : Nat} (h1 : 1 ≤ k) (hk : k ≤ n) (hd : ldep k n true = d) : begins (linkL f 0 n k true).flatten (rt f 0 k) (rt f 0 n) d k n = true := by
  have hl := linkL_len32 f n 0 k true (fun j _ => h32 _)
  have := link_back f (nth (linkL f 0 n k true).flatten) (rt f 0 k) n 0 k 0 true h1 hk (fun _ => rfl) (fun j x hx => by rw [Nat.zero_add]; exact nth_flatten _ hl j x hx)
  unfold begins
  rw [this, decide_eq_true (show 1 ≤ k ∧ k ≤ n from ⟨h1, hk⟩), decide_eq_true hd]
  simp

end Go.Proofs.YtllohbgejjbagaaDoor
