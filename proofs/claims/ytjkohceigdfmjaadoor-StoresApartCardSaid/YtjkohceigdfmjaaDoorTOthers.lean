/-
  writeOthers: each sector of a frame but the first one.
-/
import Derived.Test.YtjkohceigdfmjaaDoorTChunk
import Derived.Test.YtjkohceigdfmjaaDoorTTight
namespace Go.Proofs.YtjkohceigdfmjaaDoor
open Go.RowKit Go.Shelf

attribute [local go_sem] Oper.semAt_some

theorem But.next {S T : Nat → Prop} {a b c : World} (h : But S a b) (k : But T b c) (hT : ∀ x, x < a.heap.size → T x → S x) : But S a c :=
  ⟨k.os.trans h.os, k.tape.trans h.tape, k.output.trans h.output, Nat.le_trans h.size k.size, fun i hi hn => (k.block i (Nat.lt_of_lt_of_le hi h.size) (fun e => hn (hT i hi e))).trans (h.block i hi hn)⟩
theorem in_but {S : Nat → Prop} {w w' : World} {A : Option Addr} {n : Nat} {xs : List Nat} (h : In w A n xs) (hb : But S w w') (hA : ∀ ad, A = some ad → ¬ S ad.block) : In w' A n xs := ⟨h.len, fun j x hx => by
  obtain ⟨ad, e, hc⟩ := h.rd j x hx
  refine ⟨ad, e, (World.cell?_of_block (hb.block _ (World.block_lt_of_cell? w _ hc) ?_)).trans hc⟩
  rw [block_add]; exact hA ad e⟩

theorem alloc5 (w : World) (o1 o2 o3 o4 o5 : Obj) : (((((w.alloc o1).alloc o2).alloc o3).alloc o4).alloc o5).heap[w.heap.size]? = some o1 ∧ (((((w.alloc o1).alloc o2).alloc o3).alloc o4).alloc o5).heap[w.heap.size + 1]? = some o2 ∧
    (((((w.alloc o1).alloc o2).alloc o3).alloc o4).alloc o5).heap[w.heap.size + 2]? = some o3 ∧ (((((w.alloc o1).alloc o2).alloc o3).alloc o4).alloc o5).heap[w.heap.size + 3]? = some o4 ∧ (((((w.alloc o1).alloc o2).alloc o3).alloc o4).alloc o5).heap[w.heap.size + 4]? = some o5 := by
  have n2 := heap_alloc_new (w.alloc o1) o2
  have n3 := heap_alloc_new ((w.alloc o1).alloc o2) o3
  have n4 := heap_alloc_new (((w.alloc o1).alloc o2).alloc o3) o4
  have n5 := heap_alloc_new ((((w.alloc o1).alloc o2).alloc o3).alloc o4) o5
  simp only [World.size_alloc, Nat.add_assoc, Nat.reduceAdd] at n2 n3 n4 n5
  refine ⟨?_, ?_, ?_, ?_, n5⟩
  · rw [heap_alloc_old _ _ _ (by simp <;> omega), heap_alloc_old _ _ _ (by simp <;> omega), heap_alloc_old _ _ _ (by simp <;> omega), heap_alloc_old _ _ _ (by simp), heap_alloc_new]
  · rw [heap_alloc_old _ _ _ (by simp <;> omega), heap_alloc_old _ _ _ (by simp <;> omega), heap_alloc_old _ _ _ (by simp), n2]
  · rw [heap_alloc_old _ _ _ (by simp <;> omega), heap_alloc_old _ _ _ (by simp), n3]
  · rw [heap_alloc_old _ _ _ (by simp), n4]
/-- What holds between two sectors that are written. -/
structure Oth (w : World) (gd g0 at_ q c : Nat) (a : Addr) (F : Nat → Prop) (u : Value) (to_ : Nat) (res : Int) (st : St) (W : World) : Prop where
  disk : ∃ F', Disk W gd F' st ∧ CellsIn F' W ∧ ∀ x, F' x → F x ∨ g0 + 5 ≤ x
  but : But F w W
  size : g0 + 5 ≤ W.heap.size
  box : W.heap[g0]? = some (.cells #[.pointer (some ⟨gd, 0, none⟩), .int .i64 (at_ : Int), u] 65 (0, 0))
  res : Boxed W (g0 + 1) 28 (.int .i64 res)
  to_ : Boxed W (g0 + 2) 3 (.int .i64 (to_ : Int))
  bs : Boxes (g0 + 3) (g0 + 4) (64 * q) c a W

theorem flat_piece {T : List (List Nat)} (h : ∀ s ∈ T, s.length = 64) {k : Nat} {xs : List Nat} (hk : T[k]? = some xs) : (T.flatten.drop (64 * k)).take 64 = xs := by
  induction T generalizing k with
  | nil => simp at hk
  | cons s T ih =>
    have hs := h s (by simp)
    cases k with
    | zero =>
      simp at hk
      subst hk
      rw [List.flatten_cons, Nat.mul_zero, List.drop_zero, List.take_append_of_le_length (by omega), List.take_of_length_le (by omega)]
    | succ k =>
      rw [List.getElem?_cons_succ] at hk
      rw [List.flatten_cons, show 64 * (k + 1) = s.length + 64 * k by omega, ← List.drop_drop, List.drop_left]
      exact ih (fun t ht => h t (by simp [ht])) hk

section
variable {w W W' : World} {gd g0 at_ q c : Nat} {a : Addr} {F : Nat → Prop} {u : Value} {to_ : Nat} {res : Int} {st : St}
theorem Oth.step {row : Option Nat} (hw : w.heap.size = g0) (h : Oth w gd g0 at_ q c a F u to_ res st W) (hg : W.grownBy W' row) (hr : ∀ r, row = some r → g0 + 5 ≤ r ∧ ∃ o : Obj, W.heap[r]? = some o ∧ o.isCells = false) : Oth w gd g0 at_ q c a F u to_ res st W' := by
  obtain ⟨F', hd, hc, hf⟩ := h.disk
  have hr2 := fun r e => (hr r e).2
  have := hd.step hc hg hr2
  exact ⟨⟨F', this.1, this.2, hf⟩, h.but.step hg (fun r e => by have := (hr r e).1; omega), Nat.le_trans h.size hg.size, row_step h.box hg hr2, Boxed.step h.res hg hr2, Boxed.step h.to_ hg hr2, Boxed.step h.bs.1 hg hr2, Boxed.step h.bs.2 hg hr2⟩
theorem Oth.set (hw : w.heap.size = g0) (hF : ∀ x, F x → x < w.heap.size) (h : Oth w gd g0 at_ q c a F u to_ res st W) (t : Nat) : Oth w gd g0 at_ q c a F u t res st (W.setCell ⟨g0 + 2, 0, none⟩ (.int .i64 (t : Int))) := by
  have hb : ∀ x, x ≠ g0 + 2 → (W.setCell ⟨g0 + 2, 0, none⟩ (.int .i64 (t : Int))).heap[x]? = W.heap[x]? := fun x hx => Below.heap_setCell _ _ _ _ hx
  have hs : (W.setCell ⟨g0 + 2, 0, none⟩ (.int .i64 (t : Int))).heap.size = W.heap.size := by simp [World.setCell]
  obtain ⟨F', hd, hc, hf⟩ := h.disk
  have hne : ∀ x, F' x → x ≠ g0 + 2 := fun x hx => by rcases hf x hx with e | e; have := hF x e; omega; omega
  have bt : But (fun x => x = g0 + 2) W (W.setCell ⟨g0 + 2, 0, none⟩ (.int .i64 (t : Int))) := (But.refl _ W).set 0 _ (fun _ => rfl)
  refine ⟨⟨F', hd.but bt hne, fun x hx => ?_, hf⟩, h.but.set 0 _ (fun e => by omega), by rw [hs]; exact h.size, (hb g0 (by omega)).trans h.box, (hb _ (by omega)).trans h.res, h.to_.set _, (hb _ (by omega)).trans h.bs.1, (hb _ (by omega)).trans h.bs.2⟩
  obtain ⟨c, t', f, e⟩ := hc x hx
  exact ⟨c, t', f, (hb x (hne x hx)).trans e⟩
theorem Oth.setRes (hw : w.heap.size = g0) (hF : ∀ x, F x → x < w.heap.size) (h : Oth w gd g0 at_ q c a F u to_ res st W) (t : Int) : Oth w gd g0 at_ q c a F u to_ t st (W.setCell ⟨g0 + 1, 0, none⟩ (.int .i64 t)) := by
  have hb : ∀ x, x ≠ g0 + 1 → (W.setCell ⟨g0 + 1, 0, none⟩ (.int .i64 t)).heap[x]? = W.heap[x]? := fun x hx => Below.heap_setCell _ _ _ _ hx
  have hs : (W.setCell ⟨g0 + 1, 0, none⟩ (.int .i64 t)).heap.size = W.heap.size := by simp [World.setCell]
  obtain ⟨F', hd, hc, hf⟩ := h.disk
  have hne : ∀ x, F' x → x ≠ g0 + 1 := fun x hx => by rcases hf x hx with e | e; have := hF x e; omega; omega
  have bt : But (fun x => x = g0 + 1) W (W.setCell ⟨g0 + 1, 0, none⟩ (.int .i64 t)) := (But.refl _ W).set 0 _ (fun _ => rfl)
  refine ⟨⟨F', hd.but bt hne, fun x hx => ?_, hf⟩, h.but.set 0 _ (fun e => by omega), by rw [hs]; exact h.size, (hb g0 (by omega)).trans h.box, h.res.set _, (hb _ (by omega)).trans h.to_, (hb _ (by omega)).trans h.bs.1, (hb _ (by omega)).trans h.bs.2⟩
  obtain ⟨c, t', f, e⟩ := hc x hx
  exact ⟨c, t', f, (hb x (hne x hx)).trans e⟩
theorem Oth.acted (hw : w.heap.size = g0) (h : Oth w gd g0 at_ q c a F u to_ res st W) : Acted w gd F st W := by
  obtain ⟨F', hd, _, hf⟩ := h.disk
  exact ⟨F', hd, h.but, fun x hx => (hf x hx).imp id (fun e => by omega)⟩
/-- The disk is called. -/
theorem Oth.act {f : FuncId} {args : Array Value} {Q : Ending → Prop} {st' : St} (hw : w.heap.size = g0) (hF : ∀ x, F x → x < w.heap.size) (h : Oth w gd g0 at_ q c a F u to_ res st W)
    (hc : ∀ F', Disk W gd F' st → (∀ x, F' x → F x ∨ g0 + 5 ≤ x) → Calls Tryd.prog f args W fun e W' => Q e ∧ Acted W gd F' st' W') :
    Calls Tryd.prog f args W fun e W' => Q e ∧ Oth w gd g0 at_ q c a F u to_ res st' W' ∧ KeepsOthers W W' := by
  obtain ⟨F', hd, hci, hf⟩ := h.disk
  refine (hc F' hd hf).mono ?_
  rintro e W' ⟨hq, F2, hd2, hb, hf2⟩
  obtain ⟨F3, hd3, hc3, hf3⟩ := hd2.tight
  have hne : ∀ x, g0 ≤ x → x < g0 + 5 → W'.heap[x]? = W.heap[x]? := fun x h1 h2 => hb.block x (by have := h.size; omega) (fun e => by rcases hf x e with k | k; have := hF x k; omega; omega)
  refine ⟨hq, ⟨⟨F3, hd3, hc3, fun x hx => ?_⟩, h.but.next hb ?_, Nat.le_trans h.size hb.size, (hne g0 (by omega) (by omega)).trans h.box, (hne _ (by omega) (by omega)).trans h.res, (hne _ (by omega) (by omega)).trans h.to_, (hne _ (by omega) (by omega)).trans h.bs.1, (hne _ (by omega) (by omega)).trans h.bs.2⟩, keeps_of_but hci hb⟩
  · rcases hf2 x (hf3 x hx) with k | k
    · exact hf x k
    · right; have := h.size; omega
  · intro x hx hfx
    rcases hf x hfx with k | k
    · exact k
    · omega
end

set_option maxRecDepth 100000 in
set_option maxHeartbeats 2000000 in
theorem others_in {w : World} {gd at_ : Nat} {F : Nat → Prop} {s : St} {a : Addr} {k c : Nat} {x0 : List Nat} {T : List (List Nat)} (h : Disk w gd F s) (hin : In w (some a) (64 * k) (x0 :: T).flatten) (hL : T.length + 1 = k) (hT : 1 ≤ T.length) (hs : ∀ x ∈ x0 :: T, Sec x) (hA : ¬ F a.block) (hk : k ≤ 5) (hnc : 64 * k ≤ c)
    (hat : at_ + k ≤ s.sure.length) (hw : s.waits.length ≤ 900000) (hle : s.sure.length ≤ 4096) :
    CallsIn Fence.wide 3 Tryd.prog 50 #[addedV gd at_ (.slice (some a) (64 * k) c)] w fun e w' => e = .returned (.int .i64 (s.puts (at_ + 1) T).1) ∧ Acted w gd F (s.puts (at_ + 1) T).2 w' := by
  have hF := h.2.2
  obtain ⟨q, hq⟩ : ∃ q, T.length = q := ⟨_, rfl⟩
  obtain ⟨c1, hc1⟩ : ∃ c1, c - 64 = c1 := ⟨_, rfl⟩
  have hc2 : 64 * q ≤ c1 := by omega
  have hk1 : (64 : Int) ≤ ((64 * k : Nat) : Int) := by omega
  have hcc : ¬ c = 64 := by omega
  have hin1 : In w (some (a.add 64)) (64 * q) T.flatten := by
    have h2 := hin.rd.drop 64
    have e : (x0 :: T).flatten.drop 64 = T.flatten := by
      rw [List.flatten_cons, ← (hs x0 (by simp)).1, List.drop_left]
    rw [e] at h2
    refine ⟨?_, h2⟩
    rw [flat_len (fun x hx => (hs x (by simp [hx])).1), hq]
  obtain ⟨to0, hto0⟩ : ∃ t, at_ = t := ⟨_, rfl⟩
  have hat1 : at_ + 1 + q ≤ s.sure.length := by omega
  unfold addedV
  have hab0 : a.block < w.heap.size := by
    obtain ⟨ad, x, e, _, hc⟩ := hin.at_ (k := 0) (by omega)
    cases e
    have := World.block_lt_of_cell? w _ hc
    rwa [block_add] at this
  have HH := Lib.hid (And.intro h (And.intro hin1 (And.intro hs (And.intro hA hab0))))
  have HI := Lib.hid (And.intro hc2 (And.intro hat1 (And.intro hw (And.intro hle (And.intro hq hF)))))
  obtain ⟨n, hn⟩ : ∃ n, 64 * k = n := ⟨_, rfl⟩
  obtain ⟨n1, hn1⟩ : ∃ n1, 64 * q = n1 := ⟨_, rfl⟩
  have hnn : n - 64 = n1 := by omega
  rw [hn] at hk1 ⊢
  have hk2 : n ≤ c := by omega
  have hk3 : n ≤ 320 := by omega
  have hk4 : 64 ≤ n := by omega
  have hq5 : q ≤ 5 := by omega
  have HN := Lib.hid hn1
  have HA := Lib.hid (And.intro (show (⟨a.block, a.off + 64, none⟩ : Addr) = a.add 64 from (add_pos a (by omega)).symm) (And.intro hnn hc1))
  clear h hin hL hs hA hnc hat hw hle hq hF hn hT hin1 hat1 hto0 hn1 hc2 hnn hc1 hab0
  refine callsIn_of_wp_marks Tryd.func50 rfl trivial ?_ rfl
  simp only [Tryd.ntmps50, List.size_toArray, List.length_cons, List.length_nil, Nat.reduceAdd, Nat.reduceSub, Array.replicate_succ, Array.replicate_zero, List.push_toArray, List.append_toArray, List.nil_append, List.cons_append]
  gi_wp2_with (first
    | (refine ⟨trivial, ?_⟩; gi_at_call 60; refine (chunk64_in Fence.wide _ trivial rfl _ _ _ _).mono ?_; rintro e w3 ⟨rfl, rfl⟩))
  rw [HA.out.2.1, HA.out.2.2, HA.out.1]
  obtain ⟨a1, ha1⟩ : ∃ a1, a.add 64 = a1 := ⟨_, rfl⟩
  rw [ha1] at HH ⊢
  have hab : a1.block = a.block := by rw [← ha1, block_add]
  obtain ⟨g0, hg0⟩ : ∃ g0, w.heap.size = g0 := ⟨_, rfl⟩
  obtain ⟨W0, hW0⟩ : ∃ W0, W0 = ((((w.alloc (.cells #[.pointer (some ⟨gd, 0, none⟩), .int .i64 (at_ : Int), .slice (some a) n c] 65)).alloc (.cells #[.int .i64 0] 28)).alloc (.cells #[.int .i64 (at_ : Int)] 3)).alloc (.cells #[.slice (some a1) n1 c1] 35)).alloc (.cells #[.int .i64 64] 3) := ⟨_, rfl⟩
  have z0 : W0.heap.size = g0 + 5 := by rw [hW0, ← hg0]; simp
  have b0 : Below w.heap.size w W0 := by
    rw [hW0]
    exact (((((Below.refl _ w).alloc (Nat.le_refl _) _).alloc (by simp) _).alloc (by simp <;> omega) _).alloc (by simp <;> omega) _).alloc (by simp <;> omega) _
  have k0 : Oth w gd g0 at_ q c1 a1 F (.slice (some a) n c) (at_ + ([] : List Nat).length) 0 (s.puts (at_ + 1) (T.take ([] : List Nat).length)).2 W0 := by
    obtain ⟨F0, hd0, hc0, hf0⟩ := HH.out.1.tight
    refine ⟨⟨F0, hd0.below b0, fun x hx => ?_, fun x hx => .inl (hf0 x hx)⟩, But.of_below b0, by omega, ?_, ?_, ?_, ?_, ?_⟩
    · obtain ⟨c, t, f, e⟩ := hc0 x hx
      exact ⟨c, t, f, (b0.block x (hd0.2.2 x hx)).trans e⟩
    · rw [hW0, ← hg0]; exact (alloc5 w _ _ _ _ _).1
    · rw [hW0, ← hg0]; exact (alloc5 w _ _ _ _ _).2.1
    · rw [hW0, ← hg0]; exact (alloc5 w _ _ _ _ _).2.2.1
    · unfold Boxed; rw [hW0, ← hg0, HN.out]; exact (alloc5 w _ _ _ _ _).2.2.2.1
    · unfold Boxed; rw [hW0, ← hg0]; exact (alloc5 w _ _ _ _ _).2.2.2.2
  rw [← hW0, hg0]
  clear hW0 b0 hk1 hk2 hk4 hcc ha1
  refine wpIn_range_R rfl (by decide) (gf := 67) (bd := #[]) (lb := #[.pointer (some ⟨g0 + 1 + 1 + 1, 0, none⟩), .pointer (some ⟨g0 + 1 + 1 + 1 + 1, 0, none⟩)]) rfl trivial (enters_of Tryd.func67 (by kernel_rfl) rfl)
    (fun W1 hb1 => chunk64_seq Fence.wide (3 - 1) trivial rfl (by decide) (g0 + 3) (g0 + 4) q c1 a1 HI.out.1 (by omega) W1 ⟨(hb1.block _ (by omega)).trans k0.bs.1, (hb1.block _ (by omega)).trans k0.bs.2⟩) (fun _ => rfl)
    (fun _ _ _ _ _ _ h _ _ => h) (fun _ _ _ _ h hg hr => ⟨Boxed.step h.1 hg (fun r e => (hr r e).2), Boxed.step h.2 hg (fun r e => (hr r e).2)⟩) (fun _ _ _ _ h _ _ => h) (fun _ _ _ _ h _ _ => h)
    (fun pre W => Oth w gd g0 at_ q c1 a1 F (.slice (some a) n c) (at_ + pre.length) 0 (s.puts (at_ + 1) (T.take pre.length)).2 W ∧ (s.puts (at_ + 1) (T.take pre.length)).1 = 0)
    (fun pre W => Oth w gd g0 at_ q c1 a1 F (.slice (some a) n c) (at_ + pre.length) (s.puts (at_ + 1) T).1 (s.puts (at_ + 1) T).2 W)
    (fun _ _ _ _ h hg hr => ⟨h.1.step hg0 hg (fun r e => ⟨by have := (hr r e).1; omega, (hr r e).2⟩), h.2⟩) (fun _ _ _ _ h hg hr => h.step hg0 hg (fun r e => ⟨by have := (hr r e).1; omega, (hr r e).2⟩)) ⟨k0, rfl⟩
    (fun x => { tmps := #[.agg #[.pointer (some ⟨gd, 0, none⟩), .int .i64 (at_ : Int), .slice (some a) n c], .pointer (some ⟨g0, 0, none⟩), .pointer (some ⟨g0 + 1, 0, none⟩), .pointer (some ⟨g0 + 1 + 1, 0, none⟩), pk a1 x, undef, .pointer (some ⟨g0, 1, none⟩), .int .i64 (at_ : Int), .pointer (some ⟨g0, 2, none⟩), .slice (some a) n c, .slice (some a1) n1 c1,
      .func (.func 67) #[] #[.pointer (some ⟨g0 + 1 + 1 + 1, 0, none⟩), .pointer (some ⟨g0 + 1 + 1 + 1 + 1, 0, none⟩)], pk a1 x, undef, undef, undef, undef, undef, undef, undef, undef, undef, undef], defers := [] }) ?assign ?body ?done ?stop
  case assign =>
    intro l x W K hK
    gi_wp2
    exact hK
  case body =>
    rintro l pre x W ⟨ho, h0c⟩ ⟨rfl, hx⟩
    rw [List.length_range] at ho h0c
    obtain ⟨xs, hxs⟩ : ∃ xs, T[x]? = some xs := ⟨_, List.getElem?_eq_getElem (by rw [HI.out.2.2.2.2.1]; exact hx)⟩
    have hsec := HH.out.2.2.1 xs (List.mem_cons_of_mem _ (List.mem_of_getElem? hxs))
    have hblk : a1.block < g0 := by rw [hab, ← hg0]; exact HH.out.2.2.2.2
    have hnF : ¬ F a1.block := by rw [hab]; exact HH.out.2.2.2.1
    have hF := HI.out.2.2.2.2.2
    have hpc : In W (some (a1.add (64 * x))) 64 xs := by
      have h1 := in_but HH.out.2.1 ho.but (fun ad e => by cases e; exact hnF)
      have h2 := h1.drop_take (k := 64 * x) (m := 64) (by omega)
      have h3 : (T.flatten.drop (64 * x)).take 64 = xs := flat_piece (fun y hy => (HH.out.2.2.1 y (List.mem_cons_of_mem _ hy)).1) hxs
      rwa [h3] at h2
    have hstep := St.puts_step h0c hxs
    have hsure : (s.puts (at_ + 1) (T.take x)).2.sure = s.sure := St.puts_sure ..
    have hwt : (s.puts (at_ + 1) (T.take x)).2.waits.length ≤ 1000000 := by
      have h1 := St.puts_waits s (at_ + 1) (T.take x)
      have h2 := HI.out.2.2.1
      rw [List.length_take] at h1
      omega
    obtain ⟨st, hst⟩ : ∃ st, (s.puts (at_ + 1) (T.take x)).2 = st := ⟨_, rfl⟩
    rw [hst] at ho hstep hsure hwt
    have ho1 := ho.set hg0 hF (at_ + x + 1)
    have hpc1 : In (W.setCell ⟨g0 + 2, 0, none⟩ (.int .i64 ((at_ + x + 1 : Nat) : Int))) (some (a1.add (64 * x))) 64 xs :=
      in_but hpc ((But.refl (fun y => y = g0 + 2) W).set 0 _ (fun _ => rfl)) (fun ad e => by cases e; rw [block_add]; omega)
    have C := ho1.act hg0 hF (Q := fun e => e = .returned (.int .i64 st.sc)) (fun F' hd hf => write_gen (k := at_ + x + 1) (by rw [hsure]; have := HI.out.2.1; omega) (some (a1.add (64 * x))) 64 64 xs hpc1
      (fun _ ad e hF' => by cases e; rw [block_add] at hF'; rcases hf _ hF' with k | k; exact hnF k; omega) hsec.2 (Nat.le_refl _) hwt hd)
    have ct : W.cell? ⟨g0 + 1 + 1, 0, none⟩ = some (.int .i64 ((at_ + x : Nat) : Int)) := Boxed.cell ho.to_
    have ft : W.frozen? ⟨g0 + 1 + 1, 0, none⟩ = false := Boxed.frozen ho.to_
    have cb : (W.setCell ⟨g0 + 1 + 1, 0, none⟩ (.int .i64 ((at_ + x + 1 : Nat) : Int))).cell? ⟨g0, 0, none⟩ = some (.pointer (some ⟨gd, 0, none⟩)) := by rw [cell_of_row _ g0 0 _ _ (0, 0) ho1.box]; rfl
    have ct2 : (W.setCell ⟨g0 + 1 + 1, 0, none⟩ (.int .i64 ((at_ + x + 1 : Nat) : Int))).cell? ⟨g0 + 1 + 1, 0, none⟩ = some (.int .i64 ((at_ + x + 1 : Nat) : Int)) := Boxed.cell ho1.to_
    have hle1 : at_ + x + 1 ≤ 5000 := by have := HI.out.2.1; have := HI.out.2.2.2.1; omega
    obtain ⟨t0, ht0⟩ : ∃ t0, at_ + x = t0 := ⟨_, rfl⟩
    obtain ⟨t1, ht1⟩ : ∃ t1, at_ + x + 1 = t1 := ⟨_, rfl⟩
    have hto : ((t0 : Nat) : Int) + 1 = (t1 : Int) := by omega
    rw [ht0] at ct
    rw [ht1] at cb ct2 C hle1
    have HO := Lib.hid (And.intro hstep (And.intro hxs (And.intro ht1 (And.intro ho1.size ht0))))
    have HK1 := Lib.hid (KeepsOthers.setCell W ⟨g0 + 2, 0, none⟩ (.int .i64 (t1 : Int)))
    have HX := Lib.hid (And.intro hF (And.intro hx hg0))
    have hpx : pk a1 x = .slice (some (a1.add (64 * x))) 64 64 := rfl
    rw [hpx]
    clear ho ho1 hxs hst hsure hwt hpc hpc1 hsec hnF hF h0c ht0 ht1 hblk hab
    rcases st.sc_code with hsc | hsc
    · rw [hsc] at hstep C
      have HC := Lib.hid C
      have HS := Lib.hid hstep
      clear C hstep hsc
      gi_wp2_with (first
        | (refine ⟨trivial, ?_⟩; gi_at_call 44; refine (CallsIn.inRound l (callsIn_wide.2 HC.out)).mono ?_; rintro e w3 ⟨rfl, ho3, hko⟩))
      refine ⟨(HK1.out.trans hko).from _, fun _ _ _ _ h => h.elim, ho3.bs, ?_⟩
      have e1 : (List.range x ++ [x]).length = x + 1 := by simp
      show Oth w gd g0 at_ q c1 a1 F (.slice (some a) n c) (at_ + (List.range x ++ [x]).length) 0 (s.puts (at_ + 1) (T.take (List.range x ++ [x]).length)).2 w3 ∧ (s.puts (at_ + 1) (T.take (List.range x ++ [x]).length)).1 = 0
      rw [e1, HS.out]
      have h3 := ho3
      rw [← HO.out.2.2.1] at h3
      refine ⟨?_, rfl⟩
      rw [show at_ + 1 + x = at_ + x + 1 by omega, show at_ + (x + 1) = at_ + x + 1 by omega]
      exact h3
    · rw [hsc] at hstep C
      have HC := Lib.hid C
      have HS := Lib.hid hstep
      clear C hstep hsc
      gi_wp2_with (first
        | (refine ⟨trivial, ?_⟩; gi_at_call 44; refine (CallsIn.inRound l (callsIn_wide.2 HC.out)).mono ?_; rintro e w3 ⟨rfl, ho3, hko⟩; have cr : w3.cell? ⟨g0 + 1, 0, none⟩ = some (.int .i64 0) := Boxed.cell ho3.res; have fr : w3.frozen? ⟨g0 + 1, 0, none⟩ = false := Boxed.frozen ho3.res))
      refine ⟨((HK1.out.trans hko).trans (KeepsOthers.setCell _ _ _)).from _, ?_⟩
      have e1 : (List.range x ++ [x]).length = x + 1 := by simp
      show Oth w gd g0 at_ q c1 a1 F (.slice (some a) n c) (at_ + (List.range x ++ [x]).length) (s.puts (at_ + 1) T).1 (s.puts (at_ + 1) T).2 _
      have hT : s.puts (at_ + 1) T = (9, st.wn (at_ + 1 + x) xs) := by
        rw [St.puts_fall (j := x + 1) (by rw [HS.out]; exact (by decide : (9 : Int) ≠ 0)), HS.out]
      rw [e1, hT]
      have h3 := ho3.setRes HX.out.2.2 HX.out.1 9
      rw [← HO.out.2.2.1] at h3
      rw [show at_ + 1 + x = at_ + x + 1 by omega, show at_ + (x + 1) = at_ + x + 1 by omega]
      exact h3
  case done =>
    rintro D ys W hD rfl ⟨ho, h0c⟩ hK
    rw [List.length_range, ← HI.out.2.2.2.2.1, List.take_length] at ho h0c
    have cr : W.cell? ⟨g0 + 1, 0, none⟩ = some (.int .i64 0) := Boxed.cell ho.res
    have fr : W.frozen? ⟨g0 + 1, 0, none⟩ = false := Boxed.frozen ho.res
    have ho2 := ho.setRes hg0 HI.out.2.2.2.2.2 0
    have hK2 := (KeepsOthers.setCell W ⟨g0 + 1, 0, none⟩ (.int .i64 0)).same D _ hK rfl
    have ho4 := ho2.step hg0 (grownBy_putObj' _ D (.deferred none)) (fun r e => by cases e; exact ⟨by omega, _, hK2, rfl⟩)
    have c5 : ((W.setCell ⟨g0 + 1, 0, none⟩ (.int .i64 0)).putObj D (.deferred none)).cell? ⟨g0 + 1, 0, none⟩ = some (.int .i64 0) := Boxed.cell ho4.res
    have HF := Lib.hid (And.intro (ho4.acted hg0) h0c)
    clear ho ho2 ho4 h0c
    gi_wp2
    refine ⟨by simp, .inl ⟨_, _, rfl, run_takeDeferred hK2, ?_⟩⟩
    refine ⟨.int .i64 0, ?_, by rw [HF.out.2], HF.out.1⟩
    simp [results, go_sem, c5]
  case stop =>
    rintro D pre W hD _ ho hK
    have ho4 := ho.step hg0 (grownBy_putObj' _ D (.deferred none)) (fun r e => by cases e; exact ⟨by omega, _, hK, rfl⟩)
    have c5 : (W.putObj D (.deferred none)).cell? ⟨g0 + 1, 0, none⟩ = some (.int .i64 (s.puts (at_ + 1) T).1) := Boxed.cell ho4.res
    have HF := Lib.hid (ho4.acted hg0)
    clear ho ho4
    gi_wp2
    refine ⟨by simp, .inl ⟨_, _, rfl, run_takeDeferred hK, ?_⟩⟩
    refine ⟨.int .i64 (s.puts (at_ + 1) T).1, ?_, rfl, HF.out⟩
    simp [results, go_sem, c5]

end Go.Proofs.YtjkohceigdfmjaaDoor
