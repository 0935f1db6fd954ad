/-
  SumsKept: the sum of any bytes, and of any behind any sum, is the document's.
-/
import Derived.Test.YtnfjmhoejmhbeaaSumRef
import Derived.Test.YtnfjmhoejmhbeaaSumAlive
import Derived.Test.YtnfjmhoejmhbeaaLTwin
import Derived.Test.YtnfjmhoejmhbeaaLRow
namespace Go.Proofs.Ytnfjmhoejmhbeaa
open Go.RowKit

set_option maxRecDepth 100000 in
set_option maxHeartbeats 1000000 in
theorem sumsKept_law (w : World) {A : Option Addr} {n c : Nat} {xs : List Nat} (h : Came w A n c xs) {s : Nat} (hs : s < 4294967296) :
    Calls Try.prog 3 #[.slice A n c, .int .u32 (s : Int)] w fun e w' => e = .returned (.bool true) ∧ Below w.heap.size w w' := by
  go_enter Try.func3, Try.ntmps3
  by_cases hn : n ≤ 50000
  · have hT := twinBytes_any A n c xs w h.in_ (by omega)
    obtain ⟨r, hr⟩ : ∃ r, ofL xs = r := ⟨_, rfl⟩
    obtain ⟨q, hq⟩ : ∃ q, onL s xs = q := ⟨_, rfl⟩
    have HR := Lib.hid hr
    have HQ := Lib.hid hq
    have H := Lib.hid h
    clear hr hq h
    go_wp2_with fail
    refine hT.mono ?_
    rintro e w1 ⟨rfl, t1, b1⟩
    go_wp2_with fail
    have h1 := H.out.in_.below b1
    have C1 := of_any (some ⟨w.heap.size, 0, none⟩) n (n + 1) xs w1 t1.in_ H.out.lt (fun e => by cases e) (by omega) (by omega)
    rw [HR.out] at C1
    refine C1.mono ?_
    rintro e w2 ⟨rfl, b2⟩
    go_wp2_with fail
    have C2 := refOf_any A n c xs w2 (h1.below b2) H.out.lt (by omega)
    rw [HR.out] at C2
    refine C2.mono ?_
    rintro e w3 ⟨rfl, rfl⟩
    go_wp2_with fail
    have C3 := on_any s hs (some ⟨w.heap.size, 0, none⟩) n (n + 1) xs w2 (t1.below b2).in_ H.out.lt (fun e => by cases e) (by omega) (by omega)
    rw [HQ.out] at C3
    refine C3.mono ?_
    rintro e w3 ⟨rfl, b3⟩
    go_wp2_with fail
    have C4 := refOn_any s hs A n c xs w3 ((h1.below b2).below b3) H.out.lt (by omega)
    rw [HQ.out] at C4
    refine C4.mono ?_
    rintro e w4 ⟨rfl, rfl⟩
    go_wp2_with fail
    refine (looseN (leftBytes_yes A w.heap.size n c xs w3 ((t1.below b2).below b3) ((h1.below b2).below b3) (by omega))).mono ?_
    rintro e w4 ⟨rfl, b4⟩
    go_wp2_with fail
    go_ret
    exact ⟨rfl, below_then (below_then (below_then b1 (Nat.le_refl _) b2) (Nat.le_refl _) b3) (Nat.le_refl _) b4⟩
  · go_wp2
    go_ret
    exact ⟨rfl, Below.refl _ _⟩

end Go.Proofs.Ytnfjmhoejmhbeaa
