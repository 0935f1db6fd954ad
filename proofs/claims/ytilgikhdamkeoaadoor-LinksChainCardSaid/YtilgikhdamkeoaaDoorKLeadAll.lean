/-
  links.ends' closure that leads, whole: all sums that it takes are there, or one is missing.
-/
import Derived.Test.YtilgikhdamkeoaaDoorKLead
namespace Go.Proofs.YtilgikhdamkeoaaDoor
open Go.RowKit

section
variable {B : World} {ab lb nb gb n : Nat} {ys a : List Nat} {E : Addr}

theorem linkF_len (hlen : ys.length = 32 * n) (hal : a.length = 32) {size from_ j : Nat} {edge : Bool} (hh : j + ldep from_ size edge ≤ n) : (linkF (nth ys) a from_ size edge j).1.length = 32 ∧ (linkF (nth ys) a from_ size edge j).2.length = 32 :=
  linkF_of (P := fun l => l.length = 32) sha_length (nth ys) a hal size from_ edge j fun k hk => nth_length hlen (by omega)
theorem linkF_lt (hy : ∀ x ∈ ys, x < 256) (hab : ∀ x ∈ a, x < 256) (size from_ j : Nat) (edge : Bool) : (∀ x ∈ (linkF (nth ys) a from_ size edge j).1, x < 256) ∧ ∀ x ∈ (linkF (nth ys) a from_ size edge j).2, x < 256 :=
  linkF_of (P := fun l => ∀ x ∈ l, x < 256) sha_lt (nth ys) a hab size from_ edge j fun _ _ => nth_lt hy _

/-- What lead is asked, and what it answers. -/
def KCall (B : World) (ab lb nb gb n : Nat) (ys a : List Nat) (from_ size : Nat) (edge : Bool) (j : Nat) (P Q : List Nat) (ev : Value) (j' : Nat) : Prop :=
  ∀ (A : Option Addr) (c : Nat) (w : World), KIn B w ab lb nb gb n j A c ys a →
    Calls Tryd.prog 27 #[.int .u64 (from_ : Int), .int .u64 (size : Int), .bool edge, .pointer (some ⟨ab, 0, none⟩), .pointer (some ⟨nb, 0, none⟩), .pointer (some ⟨gb, 0, none⟩)] w (Led B w ab lb nb gb n ys a P Q ev j')

theorem klead_any (hn : n ≤ 1000000) (hy : ∀ x ∈ ys, x < 256) (hlen : ys.length = 32 * n) (hal : a.length = 32) (hab : ∀ x ∈ a, x < 256) (hk : Knows B) (hs : Starts B) (hm : Miss B E) :
    ∀ (size from_ j : Nat) (edge : Bool), 1 ≤ from_ → from_ ≤ size → size < 18446744073709551616 → j ≤ n →
      (j + ldep from_ size edge ≤ n → KCall B ab lb nb gb n ys a from_ size edge j (linkF (nth ys) a from_ size edge j).1 (linkF (nth ys) a from_ size edge j).2 .nilIface (j + ldep from_ size edge)) ∧
      (n < j + ldep from_ size edge → ∃ (P Q : List Nat) (j' : Nat), P.length = 32 ∧ Q.length = 32 ∧ KCall B ab lb nb gb n ys a from_ size edge j P Q (missV E) j') := by
  intro size
  induction size using Nat.strongRecOn with
  | ind size ih =>
    intro from_ j edge h1 hfs hz hj
    by_cases h2 : size < 2 ∨ from_ = size
    · obtain rfl : from_ = size := by omega
      rw [ldep_all h2, linkF_all _ _ h2]
      cases edge with
      | true =>
        refine ⟨fun _ A c w h => ?_, fun hh => ?_⟩
        · exact klead_edge h hal rfl
        · simp at hh; omega
      | false =>
        have hroot : KCall B ab lb nb gb n ys a from_ from_ false j (nxS ys n j) (nxS ys n j) (nxV E n j) (nxJ n j) := fun A c w h => klead_root h (nxS_length hlen j) rfl fun w' h' => knext_any h' hn hm
        refine ⟨fun hh => ?_, fun hh => ?_⟩
        · have hlt : j < n := by simp at hh; omega
          unfold nxS nxV nxJ at hroot
          rw [if_pos hlt, if_pos hlt, if_pos hlt] at hroot
          exact hroot
        · have hlt : ¬ j < n := by simp at hh; omega
          unfold nxV at hroot
          rw [if_neg hlt] at hroot
          exact ⟨_, _, _, nxS_length hlen j, nxS_length hlen j, hroot⟩
    · have hcl := cutN_lt (m := size) (by omega)
      have hcp := cutN_pos size
      by_cases ha : from_ ≤ cutN size
      · rw [ldep_low h2 ha, linkF_low _ _ h2 ha, ← Nat.add_assoc]
        have IH := ih (cutN size) hcl from_ j edge h1 ha (by omega) hj
        by_cases hd : j + ldep from_ (cutN size) edge ≤ n
        · have L := linkF_len (a := a) hlen hal hd
          have Lb := linkF_lt hy hab (cutN size) from_ j edge
          have hgo : KCall B ab lb nb gb n ys a from_ size edge j (linkF (nth ys) a from_ (cutN size) edge j).1 (nodeL (linkF (nth ys) a from_ (cutN size) edge j).2 (nxS ys n (j + ldep from_ (cutN size) edge))) (nxV E n (j + ldep from_ (cutN size) edge)) (nxJ n (j + ldep from_ (cutN size) edge)) :=
            fun A c w h => klead_low_go h L.1 L.2 (by omega) hz (by omega) ha (fun w' h' => IH.1 hd A c w' h') (fun w' A' c' h' => knext_any h' hn hm) (nxS_length hlen _) (nxS_lt hy n _) Lb.2 hk hs
          refine ⟨fun hh => ?_, fun hh => ?_⟩
          · have hlt : j + ldep from_ (cutN size) edge < n := by omega
            unfold nxS nxV nxJ at hgo
            rw [if_pos hlt, if_pos hlt, if_pos hlt] at hgo
            exact hgo
          · have hlt : ¬ j + ldep from_ (cutN size) edge < n := by omega
            unfold nxV at hgo
            rw [if_neg hlt] at hgo
            exact ⟨_, _, _, L.1, nodeL_length _ _, hgo⟩
        · obtain ⟨P, Q, j', hP, hQ, hc⟩ := IH.2 (by omega)
          refine ⟨fun hh => by omega, fun _ => ⟨P, Q, j', hP, hQ, fun A c w h => ?_⟩⟩
          exact klead_low_fall h hP hQ (by omega) hz (by omega) ha (fun w' h' => hc A c w' h')
      · rw [ldep_high h2 ha, linkF_high _ _ h2 ha, ← Nat.add_assoc]
        have IH := ih (size - cutN size) (by omega) (from_ - cutN size) j false (by omega) (by omega) (by omega) hj
        by_cases hd : j + ldep (from_ - cutN size) (size - cutN size) false ≤ n
        · have L := linkF_len (a := a) hlen hal hd
          have Lb := linkF_lt hy hab (size - cutN size) (from_ - cutN size) j false
          have hgo : KCall B ab lb nb gb n ys a from_ size edge j (nodeL (nxS ys n (j + ldep (from_ - cutN size) (size - cutN size) false)) (linkF (nth ys) a (from_ - cutN size) (size - cutN size) false j).1) (nodeL (nxS ys n (j + ldep (from_ - cutN size) (size - cutN size) false)) (linkF (nth ys) a (from_ - cutN size) (size - cutN size) false j).2) (nxV E n (j + ldep (from_ - cutN size) (size - cutN size) false)) (nxJ n (j + ldep (from_ - cutN size) (size - cutN size) false)) :=
            fun A c w h => klead_high_go h L.1 L.2 (by omega) hz (by omega) ha (fun w' h' => IH.1 hd A c w' h') (fun w' A' c' h' => knext_any h' hn hm) (nxS_length hlen _) (nxS_lt hy n _) Lb.1 Lb.2 hk hs
          refine ⟨fun hh => ?_, fun hh => ?_⟩
          · have hlt : j + ldep (from_ - cutN size) (size - cutN size) false < n := by omega
            unfold nxS nxV nxJ at hgo
            rw [if_pos hlt, if_pos hlt, if_pos hlt] at hgo
            exact hgo
          · have hlt : ¬ j + ldep (from_ - cutN size) (size - cutN size) false < n := by omega
            unfold nxV at hgo
            rw [if_neg hlt] at hgo
            exact ⟨_, _, _, nodeL_length _ _, nodeL_length _ _, hgo⟩
        · obtain ⟨P, Q, j', hP, hQ, hc⟩ := IH.2 (by omega)
          refine ⟨fun hh => by omega, fun _ => ⟨P, Q, j', hP, hQ, fun A c w h => ?_⟩⟩
          exact klead_high_fall h hP hQ (by omega) hz (by omega) ha (fun w' h' => hc A c w' h')
end

end Go.Proofs.YtilgikhdamkeoaaDoor
