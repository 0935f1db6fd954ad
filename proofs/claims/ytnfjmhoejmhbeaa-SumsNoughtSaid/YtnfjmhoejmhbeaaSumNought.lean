/-
  SumsNought: noughts behind bytes.
-/
import Derived.Test.YtnfjmhoejmhbeaaSumAlive
namespace Go.Proofs.Ytnfjmhoejmhbeaa
open Go.RowKit

theorem in_zeros (W : World) (n : Nat) : In (W.alloc (.cells (madeCells #[.int .u8 0] n) 5)) (some ⟨W.heap.size, 0, none⟩) n (List.replicate n 0) := by
  have e : madeCells #[.int .u8 0] n = (bvs (List.replicate n 0)).toArray := by
    apply Array.ext
    · rw [size_madeCells, List.size_toArray, bvs_length, List.length_replicate]
    · intro i h1 h2
      simp [madeCells, bvs, bv, Nat.mod_one]
  rw [e]
  have := In.new W (List.replicate n 0)
  rw [List.length_replicate] at this
  exact this

set_option maxRecDepth 100000 in
set_option maxHeartbeats 1000000 in
theorem sumsNought_law (w : World) {s : Nat} (hs : s < 4294967296) {m : Nat} (hm : m < 65536) :
    Calls Try.prog 7 #[.int .u32 (s : Int), .int .u16 (m : Int)] w fun e w' => e = .returned (.bool true) ∧ Below w.heap.size w w' := by
  go_enter Try.func7, Try.ntmps7
  obtain ⟨n, hn⟩ : ∃ n, m % 5000 = n := ⟨_, rfl⟩
  have hn' : (m : Int) % 5000 = (n : Int) := by omega
  have ln : n < 5000 := by omega
  have C1 := on_any s hs none 0 0 [] w (In.none_ _ _) (by simp) (fun _ => rfl) (by omega) (by omega)
  have x1 := onL_low s []
  have x2 := onL_high s []
  have y1 := zeros_low s n
  have y2 := zeros_high s n
  have C2 := fun W => on_any s hs (some ⟨W.heap.size, 0, none⟩) n n (List.replicate n 0) (W.alloc (.cells (madeCells #[.int .u8 0] n) 5)) (in_zeros W n) (fun x hx => by rw [(List.mem_replicate.1 hx).2]; omega) (fun e => by cases e) (by omega) (by omega)
  obtain ⟨x, hx⟩ : ∃ x, onL s [] = x := ⟨_, rfl⟩
  obtain ⟨y, hy⟩ : ∃ y, onL s (List.replicate n 0) = y := ⟨_, rfl⟩
  have lx := onL_lt s []
  have ly := onL_lt s (List.replicate n 0)
  rw [hx] at C1 x1 x2 lx
  rw [hy] at C2 y1 y2 ly
  simp only [sm, wt, List.foldr_nil, List.length_nil, Nat.zero_mul, Nat.add_zero, Nat.mod_mod] at x1 x2
  rw [← x1] at y1
  have MK := fun (W : World) => make_bytes n n (Nat.le_refl _) (by omega) W
  obtain ⟨xl, hxl⟩ : ∃ xl, x % 65536 = xl := ⟨_, rfl⟩
  obtain ⟨xh, hxh⟩ : ∃ xh, x / 65536 = xh := ⟨_, rfl⟩
  obtain ⟨t, ht⟩ : ∃ t, n * xl = t := ⟨_, rfl⟩
  have bt : t ≤ 5000 * 65536 := by rw [← ht]; exact Nat.mul_le_mul (by omega) (by omega)
  have ht' : (n : Int) * (xl : Int) = (t : Int) := by rw [← ht]; simp
  rw [← x1, ← x2, hxl, hxh, ht] at y2
  have bh : xh < 65536 := by omega
  have q1 : (x : Int) % 65536 = (xl : Int) := by omega
  have q1' : (s : Int) % 65536 % 65521 = (xl : Int) := by omega
  have q2 : (x : Int) / 65536 = (xh : Int) := by omega
  have q2' : (s : Int) / 65536 % 65521 = (xh : Int) := by omega
  have q3 : (y : Int) % 65536 = (xl : Int) := by omega
  have q4 : (y : Int) / 65536 = ((xh : Int) + (t : Int)) % 65521 := by omega
  clear hx hy hn x1 x2 y1 y2 hxl hxh ht
  go_wp2_with fail
  refine C1.mono ?_
  rintro e w1 ⟨rfl, b1⟩
  go_wp2_with fail
  refine (C2 _).mono ?_
  rintro e w2 ⟨rfl, b2⟩
  go_wp2_with fail
  refine (alive_any _).mono ?_
  rintro e w3 ⟨rfl, b3⟩
  go_wp2_with fail
  go_ret
  exact ⟨rfl, below_then (below_then (below_then b1 (Nat.le_refl _) (below_alloc w1 _)) (Nat.le_refl _) b2) (Nat.le_refl _) b3⟩

end Go.Proofs.Ytnfjmhoejmhbeaa
