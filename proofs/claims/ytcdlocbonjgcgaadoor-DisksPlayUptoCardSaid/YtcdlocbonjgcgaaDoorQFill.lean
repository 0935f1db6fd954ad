/-
  The Book of the statements: marks are written into every list of bytes.
-/
import Derived.Test.YtcdlocbonjgcgaaDoorQRow
namespace Go.Proofs.YtcdlocbonjgcgaaDoor
open Go.RowKit

/-- A list that is kept: its value, the longer one, how many elements it has, its number. -/
structure Held where
  A : Option Addr
  len : Nat
  c : Nat
  A2 : Option Addr
  len2 : Nat
  c2 : Nat
  num : Nat

def Held.v (h : Held) : Value := .slice h.A h.len h.c
def Held.long (h : Held) : Value := .slice h.A2 h.len2 h.c2

/-- The cells of a row of such. -/
def heldCells (hs : List Held) : List Value := hs.flatMap fun h => [h.v, h.long, .int .i64 (h.num : Int)]

theorem heldCells_cons (h : Held) (hs : List Held) : heldCells (h :: hs) = h.v :: h.long :: .int .i64 (h.num : Int) :: heldCells hs := rfl
theorem heldCells_append (hs ks : List Held) : heldCells (hs ++ ks) = heldCells hs ++ heldCells ks := by simp [heldCells]
theorem heldCells_length (hs : List Held) : (heldCells hs).length = hs.length * 3 := by
  induction hs with
  | nil => rfl
  | cons h hs ih => rw [heldCells_cons]; simp [ih]; omega
theorem heldCells_get {hs : List Held} {i : Nat} {h : Held} (hi : hs[i]? = some h) : (heldCells hs)[i * 3]? = some h.v ∧ (heldCells hs)[i * 3 + 1]? = some h.long ∧ (heldCells hs)[i * 3 + 2]? = some (.int .i64 (h.num : Int)) := by
  induction hs generalizing i with
  | nil => simp at hi
  | cons k hs ih =>
    cases i with
    | zero => simp at hi; subst hi; simp [heldCells_cons]
    | succ i =>
      have := ih (i := i) (by simpa using hi)
      rw [heldCells_cons, show (i + 1) * 3 = i * 3 + 1 + 1 + 1 by omega]
      exact this

/-- The mark of a number. -/
def mk (num : Nat) : Value := .int .u8 ((num : Int) % 256)

set_option maxRecDepth 100000 in
set_option maxHeartbeats 400000 in
theorem markByte_any (num : Nat) (w : World) : Calls Tryd.prog 66 #[.int .i64 (num : Int)] w fun e w' => e = .returned (.int .u8 ((num : Int) % 256)) ∧ w = w' := by
  go_enter Tryd.func66, Tryd.ntmps66
  go_wp2
  go_ret
  exact ⟨rfl, rfl⟩

/-- What is asked of the lists of bytes of a Book: each owns its row; no two the same block. -/
structure Lists (w : World) (base : Nat) (hs : List Held) : Prop where
  own : ∀ (i : Nat) (h : Held), hs[i]? = some h → ∃ xs, OwnB w base h.v h.len xs
  apart : ∀ (i j : Nat) (h k : Held), hs[i]? = some h → hs[j]? = some k → i ≠ j → h.v.ownBlock = none ∨ h.v.ownBlock ≠ k.v.ownBlock

/-- The blocks of the lists. -/
def inLists (hs : List Held) (b : Nat) : Prop := ∃ (i : Nat) (h : Held), hs[i]? = some h ∧ h.v.ownBlock = some b

/-- The first i lists have their marks. -/
def Filled (w : World) (base : Nat) (hs : List Held) (i : Nat) : Prop :=
  ∀ (j : Nat) (h : Held), hs[j]? = some h → ∃ xs, OwnB w base h.v h.len xs ∧ (j < i → xs = List.replicate h.len (mk h.num))

set_option maxRecDepth 100000 in
set_option maxHeartbeats 2000000 in
theorem fillByte_any (kb N base K : Nat) (bs ss : Value) (hs : List Held) (w : World) (hbk : BookAt w kb N bs ss) (hown : w.ownsRow base 81 3 bs K (heldCells hs)) (hlist : Lists w base hs)
    (hK : K ≤ 1000000) (hlen : ∀ (i : Nat) (h : Held), hs[i]? = some h → h.len ≤ 1000000000) :
    Calls Tryd.prog 39 #[.pointer (some ⟨kb, 0, none⟩)] w fun e w' => e = .returned (.tuple #[]) ∧
      Filled w' base hs K ∧ But (inLists hs) w w' := by
  have hKl : hs.length = K := by have := hown.1; rw [heldCells_length] at this; omega
  have HKl := Lib.hid hKl
  clear hKl
  obtain ⟨Ab, cb, rfl⟩ := own_form3 hown
  have h1 := hbk.b
  go_enter Tryd.func39, Tryd.ntmps39
  go_wp2
  go_loopw [2] (fun i wr => ∃ j : Nat, j ≤ K ∧ i = .int .i64 (j : Int) ∧ Filled wr base hs j ∧ But (inLists hs) w wr) (fun i _ => K - (intOf i).toNat)
  case atStart => exact ⟨0, Nat.zero_le _, rfl, fun j h hj => by obtain ⟨xs, hx⟩ := hlist.own j h hj; exact ⟨xs, hx, fun h => by omega⟩, But.refl _ _⟩
  case round =>
    obtain ⟨j, hj, rfl, hfl, hbut⟩ := hrel
    obtain ⟨wo, rfl⟩ : ∃ wo : World, wo = wr := ⟨_, rfl⟩
    have nokb : ¬ inLists hs kb := by
      rintro ⟨i, h, hi, he⟩
      obtain ⟨xs, hx⟩ := hlist.own i h hi
      exact hbk.otherB hx he
    have hbk2 := hbk.but hbut nokb
    have hown2 := own_kept_but hown hbut (by
      rintro b hb ⟨i, h, hi, he⟩
      obtain ⟨xs, hx⟩ := hlist.own i h hi
      rcases rows_neB (by decide) (by decide) hx hown with h0 | h0
      · rw [h0] at he; cases he
      · exact h0 (he.trans hb.symm))
    have h2 := hbk2.b
    by_cases hlt : j < K
    · obtain ⟨h, hh⟩ : ∃ h, hs[j]? = some h := ⟨_, List.getElem?_eq_getElem (by rw [HKl.out]; exact hlt)⟩
      obtain ⟨g1, g2, g3⟩ := heldCells_get hh
      rcases hown2.2 with ⟨e, h0⟩ | ⟨gb, cap, cur, e, hbb, hgb, hle, hm, hsz, htk⟩
      · omega
      · cases e
        have p1 : wo.cell? ⟨gb, j * 3, none⟩ = some h.v := by
          have := hown2.cells (g := gb) rfl _ _ g1
          rwa [Addr.add_lit, Nat.zero_add] at this
        have p2 : wo.cell? ⟨gb, j * 3 + 1, none⟩ = some h.long := by
          have := hown2.cells (g := gb) rfl _ _ g2
          rwa [Addr.add_lit, Nat.zero_add] at this
        have p3 : wo.cell? ⟨gb, j * 3 + 2, none⟩ = some (.int .i64 (h.num : Int)) := by
          have := hown2.cells (g := gb) rfl _ _ g3
          rwa [Addr.add_lit, Nat.zero_add] at this
        have i1 : (j : Int) < (K : Int) := by omega
        obtain ⟨xs0, hx0, _⟩ := hfl j h hh
        have hl0 := hlen j h hh
        have hin0 : ∀ b, h.v.ownBlock = some b → inLists hs b := fun b hb => ⟨j, h, hh, hb⟩
        have hrest : ∀ wi, But (fun b => h.v.ownBlock = some b) wo wi → (∃ xs, OwnB wi base h.v h.len xs ∧ xs = List.replicate h.len (mk h.num)) → Filled wi base hs (j + 1) := by
          intro wi hbi hrow j' h' hj'
          by_cases e : j' = j
          · subst e
            rw [hh] at hj'
            cases hj'
            obtain ⟨xs, r1, r2⟩ := hrow
            exact ⟨xs, r1, fun _ => r2⟩
          · obtain ⟨xs, r1, r2⟩ := hfl j' h' hj'
            refine ⟨xs, own_kept_butB r1 hbi (fun b hb hb' => ?_), fun hlt' => r2 (by omega)⟩
            rcases hlist.apart j' j h' h hj' hh e with h0 | h0
            · rw [h0] at hb; cases hb
            · exact h0 (hb.trans hb'.symm)
        have HR := Lib.hid hrest
        have HI := Lib.hid hin0
        have HF := Lib.hid hfl
        clear hrest hin0 hfl g1 g2 g3 hh
        obtain ⟨A, n, c, A2, n2, c2, num⟩ := h
        simp only [Held.v, Held.long] at p1 p2 p3 hx0 hl0
        go_wp2
        have hx1 := hx0.alloc (.cells #[.slice A n c, .slice A2 n2 c2, .int .i64 (num : Int)] 81)
        have hlt0 := hx0.lt
        obtain ⟨wa, hwa⟩ : ∃ wa, wo.alloc (.cells #[.slice A n c, .slice A2 n2 c2, .int .i64 (num : Int)] 81) = wa := ⟨_, rfl⟩
        have hba : But (fun b => (Value.slice A n c).ownBlock = some b) wo wa := by rw [← hwa]; exact (But.refl _ _).alloc _
        have hha : wa.heap[wo.heap.size]? = some (.cells #[.slice A n c, .slice A2 n2 c2, .int .i64 (num : Int)] 81 (0, 0)) := by rw [← hwa]; exact World.alloc_heap_new wo _
        rw [hwa] at hx1 ⊢
        have HH := Lib.hid hha
        clear hwa hha
        go_loopw [4] (fun i wi => ∃ (k : Nat) (xs : List Value), k ≤ n ∧ i = .int .i64 (k : Int) ∧ OwnB wi base (.slice A n c) n xs ∧ xs.take k = List.replicate k (mk num) ∧ But (fun b => (Value.slice A n c).ownBlock = some b) wa wi) (fun i _ => n - (intOf i).toNat)
        case atStart => exact ⟨0, xs0, Nat.zero_le _, rfl, hx1, by simp, But.refl _ _⟩
        case round =>
          obtain ⟨k, xs, hk, rfl, hox, htx, hbi⟩ := hrel
          have hhi : wr.heap[wo.heap.size]? = some (.cells #[.slice A n c, .slice A2 n2 c2, .int .i64 (num : Int)] 81 (0, 0)) :=
            (hbi.block _ (Array.getElem?_eq_some_iff.1 HH.out).1 (fun e => by have := (hlt0 _ e).2; omega)).trans HH.out
          have q0 : wr.cell? ⟨wo.heap.size, 0, none⟩ = some (.slice A n c) := by rw [cell_of_row _ _ 0 _ _ (0, 0) hhi]; rfl
          have q2 : wr.cell? ⟨wo.heap.size, 2, none⟩ = some (.int .i64 (num : Int)) := by rw [cell_of_row _ _ 2 _ _ (0, 0) hhi]; rfl
          clear hhi
          have HT := Lib.hid htx
          clear htx
          by_cases hlt2 : k < n
          · obtain ⟨g, rfl⟩ : ∃ g, A = some ⟨g, 0, none⟩ := hox.ad (by omega)
            obtain ⟨⟨u, hcu⟩, hfu⟩ := own_cellAtB hox hlt2
            obtain ⟨ys, hoy, hty⟩ := own_setB hox hlt2 HT.out
            have HY := Lib.hid hty
            clear hty
            have i2 : (k : Int) < (n : Int) := by omega
            go_wp2
            go_region_law ((go_simp; go_at_call 66; refine (markByte_any num _).mono ?_; rintro e w' ⟨rfl, rfl⟩))
            all_goals
              go_wp2
              go_roundw
              case rel => exact ⟨k + 1, ys, by omega, by go_num, hoy.drew, HY.out, (hbi.set k _ (fun _ => rfl)).drew⟩
              case measure => simp [intOf]; omega
          · obtain rfl : k = n := by omega
            have hfin : Filled wr base hs (j + 1) := HR.out wr (hba.trans hbi) ⟨xs, hox, by
              have e := HT.out
              rwa [List.take_of_length_le (by have := hox.len; omega)] at e⟩
            have hbo : But (inLists hs) w wr := hbut.trans ((hba.trans hbi).mono (fun b _ hb => HI.out b hb))
            clear HR HI HF
            go_wp2
            go_roundw
            case rel => exact ⟨j + 1, by omega, by go_num, hfin, hbo⟩
            case measure => simp [intOf]; omega
    · obtain rfl : j = K := by omega
      go_wp2
      go_end0
      exact ⟨rfl, hfl, hbut⟩

end Go.Proofs.YtcdlocbonjgcgaaDoor
