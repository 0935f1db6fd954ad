/-
  Arguments of the statements: []Act; great.
-/
import Derived.Test.YtcdlocbonjgcgaaDoorPFail
import Derived.Test.YtcdlocbonjgcgaaDoorLRows
import Derived.Deep.Grids
import Derived.Deep.SlicePairs
import Derived.BigQuiet
import Derived.Test.YtcdlocbonjgcgaaDoorRows
namespace Go.Proofs.YtcdlocbonjgcgaaDoor
open Go.ChangeShapes Go.WideShapes Go.ChangeAt Go.RowKit Go.Deep

/-- What the bound on what is read gives. -/
theorem bulk_one {H : Type} (d : DataW H) : 1 ≤ Rows.uptoBulk d := by
  cases d with
  | lit l => cases l <;> simp [Rows.uptoBulk]
  | nil => simp [Rows.uptoBulk]
  | ptr d => simp [Rows.uptoBulk]
  | slice elems spare => simp [Rows.uptoBulk]
  | agg parts => simp [Rows.uptoBulk]
  | iface t d => simp [Rows.uptoBulk]
  | map entries => simp [Rows.uptoBulk]
  | held h => simp [Rows.uptoBulk]
theorem bulk_part {H : Type} {d : DataW H} {l : List (DataW H)} (h : d ∈ l) : Rows.uptoBulk d ≤ Rows.uptoBulkAll l := by
  induction l with
  | nil => cases h
  | cons x r ih =>
    rw [Rows.uptoBulkAll]
    rcases List.mem_cons.1 h with e | e
    · subst e; omega
    · have := ih e; omega
theorem bulk_length {H : Type} (l : List (DataW H)) : l.length ≤ Rows.uptoBulkAll l := by
  induction l with
  | nil => simp [Rows.uptoBulkAll]
  | cons x r ih => have := bulk_one x; rw [Rows.uptoBulkAll, List.length_cons]; omega
theorem bulk_all {H : Type} (l s : List (DataW H)) : Rows.uptoBulkAll l ≤ Rows.uptoBulk (.slice l s) := by rw [Rows.uptoBulk]; omega
theorem bulk_slice {H : Type} (l s : List (DataW H)) : l.length ≤ Rows.uptoBulk (.slice l s) := Nat.le_trans (bulk_length l) (bulk_all l s)

/-- A slice of bools that came in. -/
structure CameBools (w : World) (A : Option Addr) (n c : Nat) (ks : List Bool) : Prop where
  in_ : InB w A n ks
  cap : n ≤ c
theorem CameBools.below {w w' : World} {A : Option Addr} {n c : Nat} {ks : List Bool} (h : CameBools w A n c ks) (hb : Below w.heap.size w w') : CameBools w' A n c ks := ⟨h.in_.below hb, h.cap⟩

theorem came_bools {H : Type} {enc : TypeId × Value → H} {w : World} {base fuel : Nat} {held : Bool} {cs : List Value} {x : DataW H × List MemPlace} (h : DataW.trod enc Tryd.prog w base (fun _ => true) held fuel 43 cs = some x) :
    ∃ A n c ks, cs = [.slice A n c] ∧ CameBools w A n c ks ∧ n ≤ Rows.uptoBulk x.1 := by
  rcases open_bools Tryd.underlying43 Tryd.underlying4 (by kernel_rfl) h with ⟨hcs, _⟩ | ⟨a, len, cap, B, hcs, _, hl, hm, hx, hcell⟩
  · exact ⟨none, 0, 0, [], hcs, ⟨InB.none_ _ _, Nat.le_refl _⟩, Nat.zero_le _⟩
  · refine ⟨some a, len, cap, (List.range len).map B, hcs, ⟨⟨by simp, fun j x hx => ⟨a, rfl, ?_⟩⟩, hl⟩, by rw [hx]; exact Nat.le_trans (by simp) (bulk_slice _ _)⟩
    rw [List.getElem?_map] at hx
    obtain ⟨j', hj', rfl⟩ := Option.map_eq_some_iff.1 hx
    have hlt : j < len := by have := (List.getElem?_eq_some_iff.1 hj').1; rwa [List.length_range] at this
    rw [List.getElem?_range hlt] at hj'
    cases hj'
    exact hcell j (by omega)
theorem came_bytes' {H : Type} {enc : TypeId × Value → H} {w : World} {base fuel : Nat} {held : Bool} {cs : List Value} {x : DataW H × List MemPlace} (h : DataW.trod enc Tryd.prog w base (fun _ => true) held fuel 42 cs = some x) :
    ∃ A n c xs, cs = [.slice A n c] ∧ Came w A n c xs ∧ n ≤ Rows.uptoBulk x.1 := by
  rcases open_ints Tryd.underlying42 Tryd.underlying5 (by kernel_rfl) h with ⟨hcs, _⟩ | ⟨b, l, k, zs, hcs, _, hl2, hm2, hz, hx, hcell, hwz⟩
  · exact ⟨none, 0, 0, [], hcs, ⟨In.none_ _ _, (by intro x hx; cases hx), fun _ => rfl, Nat.le_refl _⟩, Nat.zero_le _⟩
  · obtain ⟨xs, hxs⟩ := came_of (w := w) (a := some b) (len := l) (cap := k) (zs := zs) (.inr ⟨b, rfl, hl2, by simpa using hz, hcell, hwz⟩)
    exact ⟨some b, l, k, xs, hcs, hxs, by rw [hx]; exact Nat.le_trans (by simp at hz; simp [lits, hz]; omega) (bulk_slice _ _)⟩

/-- What is done with a disk. -/
structure Deed where
  kind : Nat
  n : Int
  xs : List Nat
  at_ : Int
  by_ : Nat
  ks : List Bool

/-- Element at ad is this deed. -/
structure DeedAt (w : World) (ad : Addr) (x : Deed) (B : Option Addr) (m k : Nat) (K : Option Addr) (p q : Nat) : Prop where
  c0 : w.cell? (ad.add 0) = some (.int .u8 (x.kind : Int))
  c1 : w.cell? (ad.add 1) = some (.int .i64 x.n)
  c2 : w.cell? (ad.add 2) = some (.slice B m k)
  c3 : w.cell? (ad.add 3) = some (.int .i64 x.at_)
  c4 : w.cell? (ad.add 4) = some (.int .u8 (x.by_ : Int))
  c5 : w.cell? (ad.add 5) = some (.slice K p q)
  bytes : Came w B m k x.xs
  bools : CameBools w K p q x.ks
  m_le : m ≤ 1048576
  p_le : p ≤ 1048576
  kind_lt : x.kind < 256
  by_lt : x.by_ < 256
  n_in : -9223372036854775808 ≤ x.n ∧ x.n ≤ 9223372036854775807
  at_in : -9223372036854775808 ≤ x.at_ ∧ x.at_ ≤ 9223372036854775807
theorem DeedAt.below {w w' : World} {ad : Addr} {x : Deed} {B K : Option Addr} {m k p q : Nat} (h : DeedAt w ad x B m k K p q) (hb : Below w.heap.size w w') : DeedAt w' ad x B m k K p q :=
  have t : ∀ {a : Addr} {v : Value}, w.cell? a = some v → w'.cell? a = some v := fun hc => (hb.cell (World.block_lt_of_cell? w _ hc)).trans hc
  ⟨t h.c0, t h.c1, t h.c2, t h.c3, t h.c4, t h.c5, h.bytes.below hb, h.bools.below hb, h.m_le, h.p_le, h.kind_lt, h.by_lt, h.n_in, h.at_in⟩

/-- A slice of deeds that came in. -/
structure CameActs (w : World) (A : Option Addr) (n : Nat) (ds : List Deed) : Prop where
  len : ds.length = n
  row : ∀ r x, ds[r]? = some x → ∃ ad B m k K p q, A = some ad ∧ DeedAt w (ad.add (r * 6)) x B m k K p q

theorem cellsAct : Tryd.prog.cellsOf 45 = 6 := by kernel_rfl
theorem cellsU8 : Tryd.prog.cellsOf 5 = 1 := by kernel_rfl
theorem cellsInt : Tryd.prog.cellsOf 3 = 1 := by kernel_rfl
theorem cellsBs : Tryd.prog.cellsOf 42 = 1 := by kernel_rfl
theorem cellsKs : Tryd.prog.cellsOf 43 = 1 := by kernel_rfl

set_option maxRecDepth 100000 in
theorem deed_of {H : Type} {enc : TypeId × Value → H} {w : World} {base fuel : Nat} {held : Bool} {ad : Addr} {cs : List Value} {x : DataW H × List MemPlace}
    (hc : w.cells? base ad 6 = some cs) (h : DataW.trod enc Tryd.prog w base (fun _ => true) held fuel 45 cs = some x) (hu : Rows.uptoBulk x.1 ≤ 1048576) :
    ∃ x B m k K p q, DeedAt w ad x B m k K p q := by
  obtain ⟨_, hlen, hcell⟩ := World.cells?_some hc
  obtain ⟨xs, k, hk, hxy, _, hxl, hf⟩ := DataW.trod_struct Tryd.underlying45 h
  have hxl' : xs.length = 6 := hxl
  match xs, hxl', cs, hlen with
  | [y0, y1, y2, y3, y4, y5], _, [v0, v1, v2, v3, v4, v5], _ =>
    have g0 := hf 0 _ rfl
    have g1 := hf 1 _ rfl
    have g2 := hf 2 _ rfl
    have g3 := hf 3 _ rfl
    have g4 := hf 4 _ rfl
    have g5 := hf 5 _ rfl
    simp [cellsU8, cellsInt, cellsBs, cellsKs] at g0 g1 g2 g3 g4 g5
    have hall : Rows.uptoBulkAll [y0.1, y1.1, y2.1, y3.1, y4.1, y5.1] ≤ 1048576 := by
      rw [hxy] at hu
      have hu' : Rows.uptoBulk (DataW.agg [y0.1, y1.1, y2.1, y3.1, y4.1, y5.1]) ≤ 1048576 := hu
      rw [Rows.uptoBulk] at hu'
      omega
    have u2 : Rows.uptoBulk y2.1 ≤ 1048576 := Nat.le_trans (bulk_part (by simp)) hall
    have u5 : Rows.uptoBulk y5.1 ≤ 1048576 := Nat.le_trans (bulk_part (by simp)) hall
    obtain ⟨z0, e0, _, b0⟩ := DataW.trod_int Tryd.underlying5 g0
    obtain ⟨z1, e1, _, b1⟩ := DataW.trod_int Tryd.underlying3 g1
    obtain ⟨B, m, q2, xs2, e2, i2, l2⟩ := came_bytes' g2
    obtain ⟨z3, e3, _, b3⟩ := DataW.trod_int Tryd.underlying3 g3
    obtain ⟨z4, e4, _, b4⟩ := DataW.trod_int Tryd.underlying5 g4
    obtain ⟨K, p, q5, ks, e5, i5, l5⟩ := came_bools g5
    have b0 := bounds_u8 b0
    have b4 := bounds_u8 b4
    have b1 := bounds_i64 b1
    have b3 := bounds_i64 b3
    simp only [List.cons.injEq, and_true] at e0 e1 e2 e3 e4 e5
    subst e0 e1 e2 e3 e4 e5
    obtain ⟨k0, rfl⟩ := Int.eq_ofNat_of_zero_le b0.1
    obtain ⟨k4, rfl⟩ := Int.eq_ofNat_of_zero_le b4.1
    exact ⟨⟨k0, z1, xs2, z3, k4, ks⟩, B, m, q2, K, p, q5, ⟨by simpa using hcell 0 (by omega), by simpa using hcell 1 (by omega), by simpa using hcell 2 (by omega), by simpa using hcell 3 (by omega), by simpa using hcell 4 (by omega), by simpa using hcell 5 (by omega), i2, i5, Nat.le_trans l2 u2, Nat.le_trans l5 u5, by show k0 < 256; omega, by show k4 < 256; omega, b1, b3⟩⟩

theorem came_acts {H : Type} {enc : TypeId × Value → H} {w : World} {base fuel n c : Nat} {held : Bool} {A : Option Addr} {x : DataW H × List MemPlace} (h : DataW.trod enc Tryd.prog w base (fun _ => true) held fuel 22 [.slice A n c] = some x) (hu : Rows.uptoBulk x.1 ≤ 1048576) :
    ∃ ds, CameActs w A n ds ∧ n ≤ 1048576 := by
  rcases open_slice Tryd.underlying22 h with ⟨hcs, _⟩ | ⟨a, len, cap, m, q, D, Pl, hcs, _, hl, hm, hmm, hxe, hx⟩
  · simp at hcs
    obtain ⟨rfl, rfl, rfl⟩ := hcs
    exact ⟨[], ⟨rfl, fun r x hx => by simp at hx⟩, by omega⟩
  · simp at hcs
    obtain ⟨rfl, rfl, rfl⟩ := hcs
    simp only [if_true] at hmm
    subst hmm
    rw [hxe] at hu
    have hn : n ≤ 1048576 := Nat.le_trans (by simp) (Nat.le_trans (bulk_slice _ _) hu)
    have hD : ∀ r, r < n → Rows.uptoBulk (D r) ≤ 1048576 := fun r hr => Nat.le_trans (bulk_part (List.mem_map.2 ⟨r, List.mem_range.2 hr, rfl⟩)) (Nat.le_trans (bulk_all _ _) hu)
    have hex : ∀ r, ∃ x : Deed, r < n → ∃ B u k K p q, DeedAt w (a.add (r * 6)) x B u k K p q := fun r => by
      by_cases hr : r < n
      · obtain ⟨cs', h1, h2⟩ := hx r (by omega)
        rw [cellsAct] at h1
        obtain ⟨x, hd⟩ := deed_of h1 h2 (hD r hr)
        exact ⟨x, fun _ => hd⟩
      · exact ⟨⟨0, 0, [], 0, 0, []⟩, fun h => absurd h hr⟩
    obtain ⟨f, hf⟩ := Classical.axiomOfChoice hex
    refine ⟨(List.range n).map f, ⟨by rw [List.length_map, List.length_range], fun r x hx => ?_⟩, hn⟩
    rw [List.getElem?_map] at hx
    obtain ⟨r', hr', rfl⟩ := Option.map_eq_some_iff.1 hx
    have hlt : r < n := by have := (List.getElem?_eq_some_iff.1 hr').1; rwa [List.length_range] at this
    rw [List.getElem?_range hlt] at hr'
    cases hr'
    obtain ⟨B, u, k, K, p, q, h1⟩ := hf r (by omega)
    exact ⟨a, B, u, k, K, p, q, rfl, h1⟩

/-- What a deed weighs; all up to j. -/
def weigh (x : Deed) : Nat := 2 + x.xs.length / 30 + x.ks.length / 30
def weight (ds : List Deed) (j : Nat) : Nat := ((ds.take j).map weigh).sum
theorem weight_step {ds : List Deed} {j : Nat} {x : Deed} (hx : ds[j]? = some x) : weight ds (j + 1) = weight ds j + weigh x := by
  rw [weight, weight, List.take_add_one, hx]
  simp
theorem weight_le {ds : List Deed} (h : ∀ x ∈ ds, weigh x ≤ 100000) (j : Nat) : weight ds j ≤ 100000 * j := by
  induction j with
  | zero => simp [weight]
  | succ j ih =>
    cases hx : ds[j]? with
    | none =>
      have : weight ds (j + 1) = weight ds j := by rw [weight, weight, List.take_add_one, hx]; simp
      omega
    | some x => rw [weight_step hx]; have := h x (List.mem_of_getElem? hx); omega
theorem weight_ge {ds : List Deed} {j : Nat} (h : j ≤ ds.length) : 2 * j ≤ weight ds j := by
  induction j with
  | zero => exact Nat.zero_le _
  | succ j ih =>
    rw [weight_step (List.getElem?_eq_getElem (by omega))]
    have := ih (by omega)
    unfold weigh
    omega
theorem weight_part {ds : List Deed} {x : Deed} {j k : Nat} (hx : ds[k]? = some x) (hk : k < j) (hj : j ≤ ds.length) : weigh x ≤ weight ds j := by
  induction j with
  | zero => omega
  | succ j ih =>
    rw [weight_step (List.getElem?_eq_getElem (by omega))]
    by_cases e : k = j
    · subst e
      have := List.getElem?_eq_getElem (l := ds) (i := k) (by omega)
      rw [hx] at this
      cases this
      omega
    · have := ih (by omega) (by omega)
      omega

theorem wrap_i64 {z : Int} (h1 : -9223372036854775808 ≤ z) (h2 : z ≤ 9223372036854775807) : IntKind.i64.wrap z = z := by rw [IntKind.wrap_i64]; omega

set_option maxRecDepth 100000 in
set_option maxHeartbeats 1000000 in
theorem great_any {w : World} {A : Option Addr} {n c : Nat} {ds : List Deed} (h : CameActs w A n ds) (hn : n ≤ 1048576) :
    Calls Tryd.prog 4 #[.slice A n c] w fun e w' => e = .returned (.bool (decide (400 < weight ds n))) ∧ Below w.heap.size w w' := by
  have hw : ∀ x ∈ ds, weigh x ≤ 100000 := fun x hx => by
    obtain ⟨r, hr⟩ := List.mem_iff_getElem?.1 hx
    obtain ⟨ad, B, m, k, K, p, q, _, hd⟩ := h.row r x hr
    have h1 := hd.bytes.in_.len
    have h2 := hd.bools.in_.len
    have := hd.m_le
    have := hd.p_le
    unfold weigh
    omega
  have HW := Lib.hid (And.intro h hw)
  clear h hw
  go_enter Tryd.func4, Tryd.ntmps4
  go_wp2
  go_loopw [3, 4] (fun a i wr => ∃ j s : Nat, j ≤ n ∧ i = .int .i64 (j : Int) ∧ a = .int .i64 (s : Int) ∧ s = weight ds j ∧ Below w.heap.size w wr) (fun _ i _ => n - (intOf i).toNat)
  case atStart => exact ⟨0, 0, Nat.zero_le _, rfl, rfl, rfl, Below.refl _ _⟩
  case round =>
    obtain ⟨j, s, hj, rfl, rfl, hs, hb⟩ := hrel
    have HS := Lib.hid hs
    clear hs
    by_cases hlt : j < n
    · have hji : (j : Int) < (n : Int) := by omega
      obtain ⟨x, hx⟩ : ∃ x, ds[j]? = some x := ⟨_, List.getElem?_eq_getElem (by rw [HW.out.1.len]; exact hlt)⟩
      obtain ⟨ad, B, m, k, K, p, q, rfl, hd⟩ := HW.out.1.row j x hx
      have hd := hd.below hb
      have c2 : wr.cell? ⟨(ad.add (j * 6)).block, (ad.add (j * 6)).off + 2, none⟩ = some (.slice B m k) := by rw [← add_pos _ (by decide)]; exact hd.c2
      have c5 : wr.cell? ⟨(ad.add (j * 6)).block, (ad.add (j * 6)).off + 5, none⟩ = some (.slice K p q) := by rw [← add_pos _ (by decide)]; exact hd.c5
      obtain ⟨m3, hm3⟩ : ∃ m3, m / 30 = m3 := ⟨_, rfl⟩
      obtain ⟨p3, hp3⟩ : ∃ p3, p / 30 = p3 := ⟨_, rfl⟩
      have hq1 : Int.tdiv (m : Int) 30 = (m3 : Int) := by rw [← hm3]; rfl
      have hq2 : Int.tdiv (p : Int) 30 = (p3 : Int) := by rw [← hp3]; rfl
      have hsb : s ≤ 200000000000 := by have := weight_le HW.out.2 j; have := HS.out; omega
      have hmb := hd.m_le
      have hpb := hd.p_le
      have hwx : weigh x = 2 + m3 + p3 := by unfold weigh; rw [hd.bytes.in_.len, hd.bools.in_.len, hm3, hp3]
      have HX := Lib.hid (And.intro hx hwx)
      have hm3b : m3 ≤ 1048576 := by omega
      have hp3b : p3 ≤ 1048576 := by omega
      clear hx hwx hd hm3 hp3
      obtain ⟨s2, hs2⟩ : ∃ s2, s + 2 = s2 := ⟨_, rfl⟩
      obtain ⟨s3, hs3⟩ : ∃ s3, s2 + m3 = s3 := ⟨_, rfl⟩
      obtain ⟨s4, hs4⟩ : ∃ s4, s3 + p3 = s4 := ⟨_, rfl⟩
      have w0 : IntKind.i64.wrap (m3 : Int) = (m3 : Int) := wrap_i64 (by omega) (by omega)
      have w1 : IntKind.i64.wrap (p3 : Int) = (p3 : Int) := wrap_i64 (by omega) (by omega)
      have w2 : IntKind.i64.wrap ((s : Int) + 2) = (s2 : Int) := by rw [wrap_i64 (by omega) (by omega)]; omega
      have w3 : IntKind.i64.wrap ((s2 : Int) + (m3 : Int)) = (s3 : Int) := by rw [wrap_i64 (by omega) (by omega)]; omega
      have w4 : IntKind.i64.wrap ((s3 : Int) + (p3 : Int)) = (s4 : Int) := by rw [wrap_i64 (by omega) (by omega)]; omega
      have H4 := Lib.hid (And.intro hs2 (And.intro hs3 hs4))
      clear hs2 hs3 hs4 hsb hmb hpb hm3b hp3b
      go_wp2
      refine wp_region_still_lit (by kernel_rfl) (by kernel_rfl) ?_
      repeat still_step
      refine wpStill_nil ?_
      change Exit.inBlock 1 _ Exit.normal _ wr.drew
      go_wp2
      go_roundw
      case rel =>
        refine ⟨j + 1, s4, by omega, by go_num, rfl, ?_, hb.drew⟩
        rw [weight_step HX.out.1, HX.out.2, ← HS.out]
        have := H4.out
        omega
      case measure => simp [intOf]; omega
    · obtain rfl : j = n := by omega
      have hji : decide ((j : Int) < (j : Int)) = false := by simp
      by_cases h4 : 400 < s
      · have q1 : (400 : Int) < (s : Int) := by omega
        go_wp2
        go_ret
        refine ⟨?_, hb⟩
        rw [← HS.out, decide_eq_true h4]
        rfl
      · have q1 : decide ((400 : Int) < (s : Int)) = false := by simp; omega
        go_wp2
        go_ret
        refine ⟨?_, hb⟩
        rw [← HS.out, decide_eq_false h4]
        rfl

end Go.Proofs.YtcdlocbonjgcgaaDoor
