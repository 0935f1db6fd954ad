/-
  Two disks that do not know of one another.
-/
import Derived.Test.YtolbchknjcipiaaDWritten
namespace Go.Proofs.Ytolbchknjcipiaa
open Go.RowKit

/-- Two disks in blocks from 'base' on, none of them of both. -/
def Both (base : Nat) (w : World) (g : Nat) (s : St) (g2 : Nat) (s2 : St) : Prop :=
  ∃ F G, Disk w g F s ∧ Disk w g2 G s2 ∧ (∀ x, F x → ¬ G x) ∧ (∀ x, F x → base ≤ x) ∧ (∀ x, G x → base ≤ x)

section
variable {base : Nat} {w w' : World} {g g2 : Nat} {s s2 s' : St}
theorem Both.swap (h : Both base w g s g2 s2) : Both base w g2 s2 g s := by
  obtain ⟨F, G, h1, h2, h3, h4, h5⟩ := h
  exact ⟨G, F, h2, h1, fun x hx hy => h3 x hy hx, h5, h4⟩
theorem Both.below (h : Both base w g s g2 s2) (hb : Below w.heap.size w w') : Both base w' g s g2 s2 := by
  obtain ⟨F, G, h1, h2, h3⟩ := h
  exact ⟨F, G, h1.below hb, h2.below hb, h3⟩
theorem Both.fst (h : Both base w g s g2 s2) : Above base w g s := by
  obtain ⟨F, G, h1, h2, h3, h4, h5⟩ := h
  exact ⟨F, h1, h4⟩
theorem Above.below (h : Above base w g s) (hb : Below w.heap.size w w') : Above base w' g s := by
  obtain ⟨F, h1, h2⟩ := h
  exact ⟨F, h1.below hb, h2⟩
theorem Above.mono {b' : Nat} (h : Above base w g s) (hb : b' ≤ base) : Above b' w g s := by
  obtain ⟨F, h1, h2⟩ := h
  exact ⟨F, h1, fun x hx => Nat.le_trans hb (h2 x hx)⟩
theorem Made.above (h : Made w s g w') (hb : base ≤ w.heap.size) : Above base w' g s := ⟨_, h.1, fun _ hx => Nat.le_trans hb hx.1⟩
theorem Acted.both {F G : Nat → Prop} (h : Acted w g F s' w') (hG : Disk w g2 G s2) (hd : ∀ x, F x → ¬ G x) (hF : ∀ x, F x → base ≤ x) (hG2 : ∀ x, G x → base ≤ x) (hs : base ≤ w.heap.size) :
    Both base w' g s' g2 s2 ∧ Below base w w' := by
  obtain ⟨F', h1, hbut, hF'⟩ := h
  refine ⟨⟨F', G, h1, hG.but hbut (fun x hx hf => hd x hf hx), fun x hx hy => ?_, fun x hx => ?_, hG2⟩, hbut.below hs hF⟩
  · rcases hF' x hx with h2 | h2
    · exact hd x h2 hy
    · have := hG.2.2 x hy; omega
  · rcases hF' x hx with h2 | h2
    · exact hF x h2
    · omega
theorem Made.both (h : Made w s2 g2 w') (ha : Above base w g s) (hs : base ≤ w.heap.size) : Both base w' g s g2 s2 := by
  obtain ⟨F, h1, h2⟩ := ha
  exact ⟨F, _, h1.below h.2, h.1, fun x hx hy => by have := h1.2.2 x hx; have := hy.1; omega, h2, fun x hx => Nat.le_trans hs hx.1⟩
end

end Go.Proofs.Ytolbchknjcipiaa
