/-
  A frame as plain lists of bytes.
-/
import Derived.Test.YthbgcijkpincfaaGreatDoorLPre
import Derived.Test.YthbgcijkpincfaaGreatDoorAdler
namespace Go.Proofs.YthbgcijkpincfaaGreatDoor

def recMark : List Nat := [82, 69, 67, 49]
/-- How many sectors. -/
def secs (c : Nat) : Nat := (c + 81) / 64
theorem secs_ge (c : Nat) : 18 + c ≤ 64 * secs c := by unfold secs; omega
theorem secs_le (c : Nat) (h : c ≤ 256) : secs c ≤ 5 := by unfold secs; omega
theorem secs_pos (c : Nat) : 1 ≤ secs c := by unfold secs; omega
theorem secs_lt (c : Nat) : 64 * secs c < 18 + c + 64 := by unfold secs; omega
def noug (c : Nat) : Nat := 64 * secs c - 18 - c
def toldL (num count : Nat) : List Nat := dg num 8 ++ dg count 2
def sumL (num : Nat) (b : List Nat) : Nat := ofL (toldL num b.length ++ b)
def headL (num : Nat) (b : List Nat) : List Nat := recMark ++ toldL num b.length ++ dg (sumL num b) 4
def frameL (num : Nat) (b : List Nat) : List Nat := headL num b ++ b ++ List.replicate (noug b.length) 0
theorem toldL_length (num c : Nat) : (toldL num c).length = 10 := by unfold toldL; rw [List.length_append, dg_length, dg_length]
theorem headL_length (num : Nat) (b : List Nat) : (headL num b).length = 18 := by unfold headL recMark; rw [List.length_append, List.length_append, toldL_length, dg_length]; rfl
theorem frameL_length (num : Nat) (b : List Nat) : (frameL num b).length = 64 * secs b.length := by
  unfold frameL noug
  rw [List.length_append, List.length_append, headL_length, List.length_replicate]
  have := secs_ge b.length
  omega
theorem toldL_lt (num c : Nat) : ∀ x ∈ toldL num c, x < 256 := bytes_append (dg_lt num 8) (dg_lt c 2)
theorem zeros_lt (n : Nat) : ∀ x ∈ List.replicate n 0, x < 256 := fun x h => by rw [List.eq_of_mem_replicate h]; omega
theorem recMark_lt : ∀ x ∈ recMark, x < 256 := by decide
theorem headL_lt (num : Nat) (b : List Nat) : ∀ x ∈ headL num b, x < 256 := bytes_append (bytes_append recMark_lt (toldL_lt _ _)) (dg_lt _ _)
theorem frameL_lt (num : Nat) (b : List Nat) (h : ∀ x ∈ b, x < 256) : ∀ x ∈ frameL num b, x < 256 := bytes_append (bytes_append (headL_lt _ _) h) (zeros_lt _)
theorem sumL_lt (num : Nat) (b : List Nat) : sumL num b < 4294967296 := onL_lt 1 _

/-- What is wrong with bytes of which a frame is cut. -/
inductive Bad | short | form | sum
  deriving DecidableEq
def numOf (xs : List Nat) : Nat := val ((xs.drop 4).take 8)
def cntOf (xs : List Nat) : Nat := val ((xs.drop 12).take 2)
def sumIn (xs : List Nat) : Nat := val ((xs.drop 14).take 4)
def recOf (xs : List Nat) : List Nat := (xs.drop 18).take (cntOf xs)
def restOf (xs : List Nat) : List Nat := (xs.drop (18 + cntOf xs)).take (noug (cntOf xs))
def cutL (xs : List Nat) : Option Bad :=
  if xs.length < 64 then some .short
  else if xs.take 4 ≠ recMark then some .form
  else if 256 < cntOf xs then some .form
  else if xs.length < 64 * secs (cntOf xs) then some .short
  else if restOf xs ≠ List.replicate (noug (cntOf xs)) 0 then some .form
  else if sumIn xs ≠ sumL (numOf xs) (recOf xs) then some .sum
  else none

section
variable {xs : List Nat}
theorem recOf_length (h : 64 * secs (cntOf xs) ≤ xs.length) : (recOf xs).length = cntOf xs := by
  have := secs_ge (cntOf xs)
  unfold recOf
  rw [List.length_take, List.length_drop]
  omega
theorem restOf_length (h : 64 * secs (cntOf xs) ≤ xs.length) : (restOf xs).length = noug (cntOf xs) := by
  have := secs_ge (cntOf xs)
  unfold restOf noug
  rw [List.length_take, List.length_drop]
  omega
theorem drop_take_lt (h : ∀ x ∈ xs, x < 256) (i j : Nat) : ∀ x ∈ (xs.drop i).take j, x < 256 := fun x hx => h x (List.mem_of_mem_drop (List.mem_of_mem_take hx))
theorem recOf_lt (h : ∀ x ∈ xs, x < 256) : ∀ x ∈ recOf xs, x < 256 := drop_take_lt h _ _
theorem numOf_lt (h : ∀ x ∈ xs, x < 256) : numOf xs < 18446744073709551616 := by
  have := val_lt _ (drop_take_lt h 4 8)
  have hl : ((xs.drop 4).take 8).length ≤ 8 := by rw [List.length_take]; omega
  exact Nat.lt_of_lt_of_le this (Nat.le_trans (Nat.pow_le_pow_right (by omega) hl) (by decide))
theorem cntOf_lt (h : ∀ x ∈ xs, x < 256) : cntOf xs < 65536 := by
  have := val_lt _ (drop_take_lt h 12 2)
  have hl : ((xs.drop 12).take 2).length ≤ 2 := by rw [List.length_take]; omega
  exact Nat.lt_of_lt_of_le this (Nat.le_trans (Nat.pow_le_pow_right (by omega) hl) (by decide))
theorem sumIn_lt (h : ∀ x ∈ xs, x < 256) : sumIn xs < 4294967296 := by
  have := val_lt _ (drop_take_lt h 14 4)
  have hl : ((xs.drop 14).take 4).length ≤ 4 := by rw [List.length_take]; omega
  exact Nat.lt_of_lt_of_le this (Nat.le_trans (Nat.pow_le_pow_right (by omega) hl) (by decide))
end

end Go.Proofs.YthbgcijkpincfaaGreatDoor
