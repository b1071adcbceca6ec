/-
  Plain mathematics and contracts of package diagram, several texts in one: DOps, DClone, DNot, DFix, DRes, DExi, DNev, DLst, DCnt, DSm2, DRSame, DRLev, DRSid.
-/
import Derived.Test.YtignkplogkaigaaDoorMf
import Derived.Test.YtignkplogkaigaaDoorMa
import Derived.Deep.DrawnRows
import Derived.Laws.Bits64b
import Derived.Test.YtignkplogkaigaaDoorMc
import Derived.Test.YtignkplogkaigaaDoorMd

/-! And, Or, Xor of valid diagrams. (Written by dops.py.) -/
namespace Go.Proofs.YtignkplogkaigaaDoor
open Go.RowKit Dg St

/-- the diagram of the set f lies in w -/
structure Dn (w : World) (A : Option Addr) (m c r : Nat) (f : Cfg → Bool) : Prop where
  rd : Rd w w.heap.size A (up (cn f).1)
  len : (cn f).1.length = m
  rt : (cn f).2 = r
  mc : m ≤ c
  lm : m ≤ 4096
  d : D64 f
theorem Dn.below {w w' : World} {A : Option Addr} {m c r : Nat} {f : Cfg → Bool} (h : Dn w A m c r f) (hb : Below w.heap.size w w') : Dn w' A m c r f := ⟨(h.rd.below hb).mono hb.size, h.len, h.rt, h.mc, h.lm, h.d⟩
theorem Dn.valid {w : World} {A : Option Addr} {m c r : Nat} {f : Cfg → Bool} (h : Dn w A m c r f) : Valid (cn f).1 r := by
  have := cn_valid h.d
  rw [h.rt] at this
  exact this
theorem Dn.den {w : World} {A : Option Addr} {m c r : Nat} {f : Cfg → Bool} (h : Dn w A m c r f) : Den (cn f).1 r = f := by
  have := cn_den h.d
  rw [h.rt] at this
  exact this
theorem Dn.lt {w : World} {A : Option Addr} {m c r : Nat} {f : Cfg → Bool} (h : Dn w A m c r f) : r < m + 2 := by
  have := h.valid.lt
  rw [h.len] at this
  exact this
/-- as the checks want it -/
def Dn.da (A : Option Addr) (m c r : Nat) (f : Cfg → Bool) : DA := ⟨A, m, c, up (cn f).1, (r : Int)⟩
theorem Dn.ok {w : World} {A : Option Addr} {m c r : Nat} {f : Cfg → Bool} (h : Dn w A m c r f) : DOk w (Dn.da A m c r f) := by
  have hl := h.len
  have hm := h.lm
  have hr := h.lt
  have hwi : Wi (up (cn f).1) := wi_up h.valid.good.ord (by omega)
  have hrd := h.rd
  have hmc := h.mc
  have e : (up (cn f).1).length = m := by rw [up_len, hl]
  unfold Dn.da
  generalize up (cn f).1 = l at *
  have h1 : m ≤ 9223372036854775800 := by omega
  have h2 : (-9223372036854775808 : Int) ≤ (r : Int) := by omega
  have h3 : (r : Int) ≤ 9223372036854775807 := by omega
  exact { rd := hrd, wi := hwi, len := e, lm := h1, mc := hmc, ri := ⟨h2, h3⟩ }
theorem Dn.chk {w : World} {A : Option Addr} {m c r : Nat} {f : Cfg → Bool} (h : Dn w A m c r f) : chk (up (cn f).1) (r : Int) = 0 :=
  chk_ok.2 ⟨_, r, rfl, rfl, h.valid, by rw [h.len]; exact h.lm⟩
/-- what an operation answers: the diagram of the set h, and no error -/
def BinOk (w w' : World) (h : Cfg → Bool) (e : Ending) : Prop := (∃ (A : Option Addr) (m c r : Nat), e = .returned (.tuple #[.agg #[.slice A m c, .int .i64 (r : Int)], .int .i64 0]) ∧ Dn w' A m c r h ∧ Fr A w.heap.size) ∧ Below w.heap.size w w'
/-- two arguments of combine -/
def two (A0 A1 : Option Addr) (m0 c0 r0 m1 c1 r1 : Nat) (N0 N1 : List Br) : Ca where
  A t := if t = 0 then A0 else if t = 1 then A1 else none
  m t := if t = 0 then m0 else if t = 1 then m1 else 0
  c t := if t = 0 then c0 else if t = 1 then c1 else 0
  r t := if t = 0 then r0 else if t = 1 then r1 else 0
  N t := if t = 0 then N0 else if t = 1 then N1 else []
theorem two_ok {w : World} {A0 A1 : Option Addr} {m0 c0 r0 m1 c1 r1 : Nat} {N0 N1 : List Br} (h0 : Rd w w.heap.size A0 (up N0)) (h1 : Rd w w.heap.size A1 (up N1)) (l0 : N0.length = m0) (l1 : N1.length = m1) (b0 : m0 ≤ 4096) (b1 : m1 ≤ 4096) (o0 : Ord N0) (o1 : Ord N1) (q0 : r0 < m0 + 2) (q1 : r1 < m1 + 2) : (two A0 A1 m0 c0 r0 m1 c1 r1 N0 N1).Ok 2 w := by
  refine ⟨fun t ht => ?_, fun t => ?_, fun t => ?_, fun t => ?_, fun t => ?_, fun t ht => ?_⟩
  · obtain rfl | rfl : t = 0 ∨ t = 1 := by omega
    · exact h0
    · exact h1
  · unfold two; simp only; split
    · exact l0
    · split
      · exact l1
      · rfl
  · unfold two; simp only; split
    · exact b0
    · split
      · exact b1
      · omega
  · unfold two; simp only; split
    · exact o0
    · split
      · exact o1
      · exact good_nil.ord
  · unfold two; simp only; split
    · exact q0
    · split
      · exact q1
      · omega
  · unfold two
    simp only
    rw [if_neg (by omega), if_neg (by omega), if_neg (by omega), if_neg (by omega), if_neg (by omega), if_neg (by omega), if_neg (by omega), if_neg (by omega)]
    exact ⟨rfl, rfl, rfl, rfl⟩
theorem two_pr {A0 A1 : Option Addr} {m0 c0 r0 m1 c1 r1 : Nat} {N0 N1 : List Br} (q0 : r0 < m0 + 2) (q1 : r1 < m1 + 2) (hp : (m0 + 2) * (m1 + 2) ≤ 4096) : ∀ k, k ≤ 3 → (two A0 A1 m0 c0 r0 m1 c1 r1 N0 N1).pr k ≤ 1000000000000 := by
  intro k hk
  have h1 : (r0 + 1) * (r1 + 1) ≤ (m0 + 2) * (m1 + 2) := Nat.mul_le_mul (by omega) (by omega)
  have h2 : r0 + 1 ≤ (r0 + 1) * (r1 + 1) := Nat.le_mul_of_pos_right _ (by omega)
  obtain rfl | rfl | rfl | rfl : k = 0 ∨ k = 1 ∨ k = 2 ∨ k = 3 := by omega
  · show 1 ≤ _; omega
  · show 1 * (r0 + 1) ≤ _; omega
  · show 1 * (r0 + 1) * (r1 + 1) ≤ _; rw [Nat.one_mul]; omega
  · show 1 * (r0 + 1) * (r1 + 1) * (0 + 1) ≤ _; rw [Nat.one_mul]; omega
theorem two_same {A0 A1 : Option Addr} {m0 c0 r0 m1 c1 r1 : Nat} {N0 N1 : List Br} : ∀ x, x < (two A0 A1 m0 c0 r0 m1 c1 r1 N0 N1).r 1 + 1 → x < (two A0 A1 m0 c0 r0 m1 c1 r1 N0 N1).r 2 + 1 → Den ((two A0 A1 m0 c0 r0 m1 c1 r1 N0 N1).N 1) x = Den ((two A0 A1 m0 c0 r0 m1 c1 r1 N0 N1).N 2) x := by
  intro x _ h2
  have : x = 0 := by
    have h3 : (two A0 A1 m0 c0 r0 m1 c1 r1 N0 N1).r 2 = 0 := rfl
    omega
  subst this
  rw [Den_zero, Den_zero]
/-- the four cells that the call lays -/
def W4 (w : World) (A0 A1 : Option Addr) (m0 c0 r0 m1 c1 r1 : Nat) : World := ((((w.alloc (.cells #[.slice A0 m0 c0, .int .i64 (r0 : Int)] 40)).alloc (.cells #[.slice A1 m1 c1, .int .i64 (r1 : Int)] 40)).alloc (.cells #[.slice none 0 0, .int .i64 0] 40)).alloc (.cells #[.slice A0 m0 c0, .int .i64 (r0 : Int), .slice A1 m1 c1, .int .i64 (r1 : Int)] 40))
theorem W4_below (w : World) (A0 A1 : Option Addr) (m0 c0 r0 m1 c1 r1 : Nat) : Below w.heap.size w (W4 w A0 A1 m0 c0 r0 m1 c1 r1) := ((((Below.refl _ _).alloc (Nat.le_refl _) _).alloc (by simp) _).alloc (by simp; omega) _).alloc (by simp; omega) _
theorem W4_size (w : World) (A0 A1 : Option Addr) (m0 c0 r0 m1 c1 r1 : Nat) : (W4 w A0 A1 m0 c0 r0 m1 c1 r1).heap.size = w.heap.size + 1 + 1 + 1 + 1 := by simp [W4]
theorem W4_res (w : World) (A0 A1 : Option Addr) (m0 c0 r0 m1 c1 r1 : Nat) : Blk (W4 w A0 A1 m0 c0 r0 m1 c1 r1) (w.heap.size + 1 + 1) 2 zc := by
  have h := (Blk.new (w := (w.alloc (.cells #[.slice A0 m0 c0, .int .i64 (r0 : Int)] 40)).alloc (.cells #[.slice A1 m1 c1, .int .i64 (r1 : Int)] 40)) (H := w.heap.size + 1 + 1) (by simp) [.slice none 0 0, .int .i64 0] 40).alloc (by simp) (.cells #[.slice A0 m0 c0, .int .i64 (r0 : Int), .slice A1 m1 c1, .int .i64 (r1 : Int)] 40)
  exact h.congr (fun i hi => by
    obtain rfl | rfl : i = 0 ∨ i = 1 := by simp at hi; omega
    all_goals rfl)
theorem W4_args (w : World) (A0 A1 : Option Addr) (m0 c0 r0 m1 c1 r1 : Nat) : Blk (W4 w A0 A1 m0 c0 r0 m1 c1 r1) (w.heap.size + 1 + 1 + 1) 4 (fun i => [Value.slice A0 m0 c0, .int .i64 (r0 : Int), .slice A1 m1 c1, .int .i64 (r1 : Int)].getD i undef) :=
  Blk.new (w := ((w.alloc (.cells #[.slice A0 m0 c0, .int .i64 (r0 : Int)] 40)).alloc (.cells #[.slice A1 m1 c1, .int .i64 (r1 : Int)] 40)).alloc (.cells #[.slice none 0 0, .int .i64 0] 40)) (by simp) [.slice A0 m0 c0, .int .i64 (r0 : Int), .slice A1 m1 c1, .int .i64 (r1 : Int)] 40

end Go.Proofs.YtignkplogkaigaaDoor

/-! slices.Clone of branches: a row of the call's own. -/
namespace Go.Proofs.YtignkplogkaigaaDoor
open Go.RowKit Dg St

/-- the cells of branches, in a row -/
def brc (L : Nat → Br) (i : Nat) : Value := if i % 3 = 0 then .int .i64 ((L (i / 3)).1 : Int) else if i % 3 = 1 then .int .i64 ((L (i / 3)).2.1 : Int) else .int .i64 ((L (i / 3)).2.2 : Int)
theorem brc0 (L : Nat → Br) (j : Nat) : brc L (j * 3) = .int .i64 ((L j).1 : Int) := by unfold brc; rw [if_pos (by omega), show j * 3 / 3 = j by omega]
theorem brc1 (L : Nat → Br) (j : Nat) : brc L (j * 3 + 1) = .int .i64 ((L j).2.1 : Int) := by unfold brc; rw [if_neg (by omega), if_pos (by omega), show (j * 3 + 1) / 3 = j by omega]
theorem brc2 (L : Nat → Br) (j : Nat) : brc L (j * 3 + 2) = .int .i64 ((L j).2.2 : Int) := by unfold brc; rw [if_neg (by omega), if_neg (by omega), show (j * 3 + 2) / 3 = j by omega]
def brs (M : List Br) (j : Nat) : Br := (bv M j, bl M j, bh M j)
/-- such a block reads as the list -/
theorem Blk.rd {w : World} {g m : Nat} {L : Nat → Br} {M : List Br} (h : Blk w g (m * 3) (brc L)) (hl : M.length = m) (he : ∀ j, j < m → L j = brs M j) : Rd w w.heap.size (some ⟨g, 0, none⟩) (up M) := fun h0 => by
  rw [up_len] at h0
  refine ⟨g, 0, rfl, h.lt (by omega), fun j hj => ?_⟩
  rw [up_len] at hj
  have e := he j (by omega)
  have c0 := (h (j * 3) (by omega)).1
  have c1 := (h (j * 3 + 1) (by omega)).1
  have c2 := (h (j * 3 + 2) (by omega)).1
  rw [brc0, e] at c0
  rw [brc1, e] at c1
  rw [brc2, e] at c2
  rw [iv_up, il_up, ih_up, Nat.zero_add]
  exact ⟨c0, c1, c2⟩
theorem flat_get (M : List Br) (i : Nat) (hi : i < M.length * 3) : (flat M)[i]? = some (brc (brs M) i) := by
  obtain ⟨f0, f1, f2⟩ := flat_at M (i / 3) (by omega)
  have h3 : i = i / 3 * 3 ∨ i = i / 3 * 3 + 1 ∨ i = i / 3 * 3 + 2 := by omega
  generalize i / 3 = j at *
  rcases h3 with rfl | rfl | rfl
  · rw [f0, brc0]; rfl
  · rw [f1, brc1]; rfl
  · rw [f2, brc2]; rfl
theorem own_blk {w : World} {base g m cap : Nat} {M : List Br} (h : w.ownsRow base 96 3 (.slice (some ⟨g, 0, none⟩) m cap) m (flat M)) (hl : M.length = m) : Blk w g (m * 3) (brc (brs M)) := fun i hi => by
  subst hl
  refine ⟨?_, ?_⟩
  · rw [h.cellAt i (by omega)]
    exact flat_get M i hi
  · rcases h.2 with ⟨e, _⟩ | ⟨g', cap', cur, e, _, hh, _⟩
    · cases e
    · injection e with e1
      injection e1 with e2
      injection e2 with e3
      subst e3
      exact frozen_of_row w g i _ _ hh

theorem run_append_none (base : Nat) (t ty e : TypeId) (i : TypeInfo) (size : Nat) (P : Program) (w : World) (ht : P.underlying t = some (.slice e)) (hi : P.info? e = some i)
    (v : Value) (n c : Nat) (A : Option Addr) (xs : List Value) (hown : w.ownsRow base e size v n xs) :
    (Builtin.append_ #[t, t] ty #[v, .slice A 0 c]).run P w = .ok v w := by
  rcases hown.2 with ⟨rfl, rfl⟩ | ⟨g, cap, cur, rfl, _, _, hnc, _⟩
  · rcases A with _ | ad <;> simp [Builtin.append_, run_underlying ht, sizeOf, typeInfo, hi, Builtin.lenOf, Builtin.firstCells, loadCells, loadCellsFrom]
  · rcases A with _ | ad <;> simp [Builtin.append_, run_underlying ht, sizeOf, typeInfo, hi, Builtin.lenOf, Builtin.firstCells, hnc, storeCells, loadCells, loadCellsFrom]

theorem flat_one (M : List Br) : ∀ u ∈ flat M, u.oneCell' = true := by
  intro u hu
  unfold flat at hu
  rw [List.mem_flatMap] at hu
  obtain ⟨b, _, hb⟩ := hu
  simp only [List.mem_cons, List.not_mem_nil, or_false] at hb
  rcases hb with rfl | rfl | rfl <;> rfl
theorem rd_news {w : World} {B b o : Nat} {M : List Br} (h : Rd w B (some ⟨b, o, none⟩) (up M)) : ∀ j u, (flat M)[j]? = some u → w.cell? ((⟨b, o, none⟩ : Addr).add j) = some u := fun j u hu => by
  have hadd : (⟨b, o, none⟩ : Addr).add j = ⟨b, o + j, none⟩ := by unfold Addr.add; split <;> simp_all
  have hj : j < M.length * 3 := by
    have := List.getElem?_eq_some_iff.1 hu
    obtain ⟨h1, _⟩ := this
    rw [flat_len] at h1
    exact h1
  have hm : 0 < (up M).length := by rw [up_len]; omega
  obtain ⟨b', o', e, _, hc⟩ := h hm
  injection e with e1
  injection e1 with e2 e3
  subst e2
  subst e3
  obtain ⟨c0, c1, c2⟩ := hc (j / 3) (by rw [up_len]; omega)
  rw [iv_up] at c0
  rw [il_up] at c1
  rw [ih_up] at c2
  rw [flat_get M j hj] at hu
  injection hu with hu
  rw [hadd, ← hu]
  have h3 : j = j / 3 * 3 ∨ j = j / 3 * 3 + 1 ∨ j = j / 3 * 3 + 2 := by omega
  generalize j / 3 = q at *
  rcases h3 with rfl | rfl | rfl
  · rw [brc0]; exact c0
  · rw [brc1, ← Nat.add_assoc]; exact c1
  · rw [brc2, ← Nat.add_assoc]; exact c2

/-- what Clone answers -/
def ClOk (w w' : World) (M : List Br) (e : Ending) : Prop := (∃ A c, e = .returned (.slice A M.length c) ∧ M.length ≤ c ∧ Fr A w.heap.size ∧ (0 < M.length → ∃ g, A = some ⟨g, 0, none⟩ ∧ w.heap.size ≤ g ∧ Blk w' g (M.length * 3) (brc (brs M)))) ∧ Below w.heap.size w w'

end Go.Proofs.YtignkplogkaigaaDoor

/-! Not of a valid diagram. -/
namespace Go.Proofs.YtignkplogkaigaaDoor
open Go.RowKit Dg St
attribute [local go_sem ↓] Go.wp_at_zero Go.wp_at_succ

/-- the branches behind k rounds -/
def nk (M : List Br) (k j : Nat) : Br := if j < k then cb (brs M j) else brs M j
theorem nk_step (M : List Br) (k m : Nat) (hk : k < m) : ∀ i, i < m * 3 → fup (fup (brc (nk M k)) (k * 3 + 1) (.int .i64 ((cm (bl M k) : Nat) : Int))) (k * 3 + 2) (.int .i64 ((cm (bh M k) : Nat) : Int)) i = brc (nk M (k + 1)) i := by
  intro i _
  have h3 : i = i / 3 * 3 ∨ i = i / 3 * 3 + 1 ∨ i = i / 3 * 3 + 2 := by omega
  generalize i / 3 = q at *
  have hne : ∀ q, q ≠ k → nk M (k + 1) q = nk M k q := fun q hq => by
    unfold nk
    by_cases h : q < k
    · rw [if_pos h, if_pos (by omega)]
    · rw [if_neg h, if_neg (by omega)]
  have hk0 : nk M k k = brs M k := if_neg (by omega)
  have hk1 : nk M (k + 1) k = cb (brs M k) := if_pos (by omega)
  rcases h3 with rfl | rfl | rfl
  · rw [fup_ne _ _ (by omega), fup_ne _ _ (by omega), brc0, brc0]
    by_cases e : q = k
    · subst e; rw [hk0, hk1]; rfl
    · rw [hne q e]
  · rw [fup_ne _ _ (by omega)]
    by_cases e : q = k
    · subst e; rw [fup_same, brc1, hk1]; rfl
    · rw [fup_ne _ _ (by omega), brc1, brc1, hne q e]
  · by_cases e : q = k
    · subst e; rw [fup_same, brc2, hk1]; rfl
    · rw [fup_ne _ _ (by omega), fup_ne _ _ (by omega), brc2, brc2, hne q e]

theorem alloc_set_cell (wr : World) (x y z : Int) (T : Nat) (a : Addr) (v : Value) : ((wr.setCell a v).alloc (.cells #[.int .i64 x, .int .i64 y, .int .i64 z] T)).drew.cell? ⟨wr.heap.size, 1, none⟩ = some (.int .i64 y) ∧ ((wr.setCell a v).alloc (.cells #[.int .i64 x, .int .i64 y, .int .i64 z] T)).drew.cell? ⟨wr.heap.size, 2, none⟩ = some (.int .i64 z) := by
  have h := Blk.new (w := wr.setCell a v) (H := wr.heap.size) (by simp [World.setCell]) [.int .i64 x, .int .i64 y, .int .i64 z] T
  exact ⟨(h 1 (by simp)).1, (h 2 (by simp)).1⟩
theorem alloc_set_cell2 (wr : World) (x y z : Int) (T : Nat) (a b : Addr) (v u : Value) : (((wr.setCell a v).setCell b u).alloc (.cells #[.int .i64 x, .int .i64 y, .int .i64 z] T)).drew.cell? ⟨wr.heap.size, 1, none⟩ = some (.int .i64 y) ∧ (((wr.setCell a v).setCell b u).alloc (.cells #[.int .i64 x, .int .i64 y, .int .i64 z] T)).drew.cell? ⟨wr.heap.size, 2, none⟩ = some (.int .i64 z) := by
  have h := Blk.new (w := (wr.setCell a v).setCell b u) (H := wr.heap.size) (by simp [World.setCell]) [.int .i64 x, .int .i64 y, .int .i64 z] T
  exact ⟨(h 1 (by simp)).1, (h 2 (by simp)).1⟩
/-- the state of Not: the boxed diagram in block H, the result's cells in H + 1, the clone in block g -/
structure Ns (w wr : World) (H g m k : Nat) (A : Option Addr) (c r : Nat) (M : List Br) : Prop where
  hH : w.heap.size = H
  sz : H + 1 < wr.heap.size
  bel : Below H w wr
  x : Blk wr H 2 (fun i => [Value.slice A m c, .int .i64 (r : Int)].getD i undef)
  res : Blk wr (H + 1) 2 zc
  row : 0 < m → Blk wr g (m * 3) (brc (nk M k)) ∧ H + 1 < g

theorem Ns.step {w wr : World} {H g m k c r : Nat} {A : Option Addr} {M : List Br} (h : Ns w wr H g m k A c r M) (hk : k < m) (L U : Nat) (hst : ∀ i, i < m * 3 → fup (fup (brc (nk M k)) (k * 3 + 1) (.int .i64 ((cm L : Nat) : Int))) (k * 3 + 2) (.int .i64 ((cm U : Nat) : Int)) i = brc (nk M (k + 1)) i) (o : Obj) :
    Ns w ((((wr.setCell ⟨g, k * 3 + 1, none⟩ (.int .i64 ((cm L : Nat) : Int))).setCell ⟨g, k * 3 + 2, none⟩ (.int .i64 ((cm U : Nat) : Int))).alloc o).drew) H g m (k + 1) A c r M := by
  obtain ⟨hr, hg⟩ := h.row (by omega)
  have hs : H + 1 < ((wr.setCell ⟨g, k * 3 + 1, none⟩ (.int .i64 ((cm L : Nat) : Int))).setCell ⟨g, k * 3 + 2, none⟩ (.int .i64 ((cm U : Nat) : Int))).heap.size := by
    have := h.sz
    simpa [World.setCell] using this
  have b0 : Below H w ((wr.setCell ⟨g, k * 3 + 1, none⟩ (.int .i64 ((cm L : Nat) : Int))).setCell ⟨g, k * 3 + 2, none⟩ (.int .i64 ((cm U : Nat) : Int))) := (h.bel.setCell (by simp; omega) _).setCell (by simp; omega) _
  have d := fun (a : World) (b n : Nat) F (hb : Blk a b n F) => hb.keep (w' := a.drew) rfl
  refine ⟨h.hH, ?_, below_drewN (b0.alloc (by omega) o) 1, d _ _ _ _ (((h.x.other (by simp; omega) _).other (by simp; omega) _).alloc (by omega) o), d _ _ _ _ (((h.res.other (by simp; omega) _).other (by simp; omega) _).alloc (by omega) o), fun _ => ⟨d _ _ _ _ ((((hr.set (i := k * 3 + 1) (by omega) _).set (i := k * 3 + 2) (by omega) _).congr hst).alloc (by omega) o), hg⟩⟩
  exact Nat.lt_of_lt_of_le hs ((Below.refl _ _).alloc (Nat.le_refl _) o).size

end Go.Proofs.YtignkplogkaigaaDoor

/-! fixed: a restriction that is not reduced. -/
namespace Go.Proofs.YtignkplogkaigaaDoor
open Go.RowKit Dg St

/-- the branches behind k rounds -/
def fk (v : Nat) (b : Bool) (M : List Br) (k j : Nat) : Br := if j < k then fxb v b (brs M j) else brs M j
theorem fk_ne (v : Nat) (b : Bool) (M : List Br) {k q : Nat} (h : q ≠ k) : fk v b M (k + 1) q = fk v b M k q := by
  unfold fk
  by_cases h2 : q < k
  · rw [if_pos h2, if_pos (by omega)]
  · rw [if_neg h2, if_neg (by omega)]
theorem fk_now (v : Nat) (b : Bool) (M : List Br) (k : Nat) : fk v b M k k = brs M k := if_neg (by omega)
theorem fk_next (v : Nat) (b : Bool) (M : List Br) (k : Nat) : fk v b M (k + 1) k = fxb v b (brs M k) := if_pos (by omega)
theorem fk_other (v : Nat) (b : Bool) (M : List Br) (k : Nat) (h : bv M k ≠ v) : ∀ i, brc (fk v b M k) i = brc (fk v b M (k + 1)) i := by
  intro i
  have e : fk v b M (k + 1) = fk v b M k := by
    funext q
    by_cases e : q = k
    · subst e; rw [fk_now, fk_next]; exact if_neg h
    · exact fk_ne v b M e
  rw [e]
theorem fk_true (v : Nat) (M : List Br) (k : Nat) (h : bv M k = v) : ∀ i, fup (brc (fk v true M k)) (k * 3 + 1) (.int .i64 ((bh M k : Nat) : Int)) i = brc (fk v true M (k + 1)) i := by
  intro i
  have h3 : i = i / 3 * 3 ∨ i = i / 3 * 3 + 1 ∨ i = i / 3 * 3 + 2 := by omega
  generalize i / 3 = q at *
  have hx : fxb v true (brs M k) = (bv M k, bh M k, bh M k) := by unfold fxb; rw [if_pos (show (brs M k).1 = v from h)]; rfl
  rcases h3 with rfl | rfl | rfl
  · rw [fup_ne _ _ (by omega), brc0, brc0]
    by_cases e : q = k
    · subst e; rw [fk_now, fk_next, hx]; rfl
    · rw [fk_ne _ _ _ e]
  · by_cases e : q = k
    · subst e; rw [fup_same, brc1, fk_next, hx]
    · rw [fup_ne _ _ (by omega), brc1, brc1, fk_ne _ _ _ e]
  · rw [fup_ne _ _ (by omega), brc2, brc2]
    by_cases e : q = k
    · subst e; rw [fk_now, fk_next, hx]; rfl
    · rw [fk_ne _ _ _ e]
theorem fk_false (v : Nat) (M : List Br) (k : Nat) (h : bv M k = v) : ∀ i, fup (brc (fk v false M k)) (k * 3 + 2) (.int .i64 ((bl M k : Nat) : Int)) i = brc (fk v false M (k + 1)) i := by
  intro i
  have h3 : i = i / 3 * 3 ∨ i = i / 3 * 3 + 1 ∨ i = i / 3 * 3 + 2 := by omega
  generalize i / 3 = q at *
  have hx : fxb v false (brs M k) = (bv M k, bl M k, bl M k) := by unfold fxb; rw [if_pos (show (brs M k).1 = v from h)]; rfl
  rcases h3 with rfl | rfl | rfl
  · rw [fup_ne _ _ (by omega), brc0, brc0]
    by_cases e : q = k
    · subst e; rw [fk_now, fk_next, hx]; rfl
    · rw [fk_ne _ _ _ e]
  · rw [fup_ne _ _ (by omega), brc1, brc1]
    by_cases e : q = k
    · subst e; rw [fk_now, fk_next, hx]; rfl
    · rw [fk_ne _ _ _ e]
  · by_cases e : q = k
    · subst e; rw [fup_same, brc2, fk_next, hx]
    · rw [fup_ne _ _ (by omega), brc2, brc2, fk_ne _ _ _ e]

/-- the state of fixed: the boxed diagram in block H, the result's cells in H + 1, the clone in block g -/
structure Fs (w wr : World) (H g m : Nat) (A : Option Addr) (c r : Nat) (L : Nat → Br) : Prop where
  hH : w.heap.size = H
  sz : H + 1 < wr.heap.size
  bel : Below H w wr
  x : Blk wr H 2 (fun i => [Value.slice A m c, .int .i64 (r : Int)].getD i undef)
  res : Blk wr (H + 1) 2 zc
  row : 0 < m → Blk wr g (m * 3) (brc L) ∧ H + 1 < g
theorem Fs.alloc {w wr : World} {H g m c r : Nat} {A : Option Addr} {L : Nat → Br} (h : Fs w wr H g m A c r L) (o : Obj) : Fs w (wr.alloc o) H g m A c r L := by
  have b := (Below.refl wr.heap.size wr).alloc (Nat.le_refl _) o
  exact ⟨h.hH, Nat.lt_of_lt_of_le h.sz b.size, h.bel.alloc (by have := h.sz; omega) o, h.x.alloc (by omega) o, h.res.alloc (by omega) o, fun hm => ⟨(h.row hm).1.alloc (by omega) o, (h.row hm).2⟩⟩
theorem Fs.set {w wr : World} {H g m c r i : Nat} {A : Option Addr} {L L' : Nat → Br} (h : Fs w wr H g m A c r L) (hm : 0 < m) (hi : i < m * 3) (u : Value) (hL : ∀ j, fup (brc L) i u j = brc L' j) : Fs w (wr.setCell ⟨g, i, none⟩ u) H g m A c r L' := by
  obtain ⟨hr, hg⟩ := h.row hm
  exact ⟨h.hH, by have := h.sz; simpa [World.setCell] using this, h.bel.setCell (by simp; omega) u, h.x.other (by simp; omega) u, h.res.other (by simp; omega) u, fun _ => ⟨(hr.set hi u).congr (fun j _ => hL j), hg⟩⟩
theorem Fs.same {w wr : World} {H g m c r : Nat} {A : Option Addr} {L L' : Nat → Br} (h : Fs w wr H g m A c r L) (hL : ∀ j, brc L j = brc L' j) : Fs w wr H g m A c r L' :=
  ⟨h.hH, h.sz, h.bel, h.x, h.res, fun hm => ⟨(h.row hm).1.congr (fun j _ => hL j), (h.row hm).2⟩⟩
/-- what fixed answers -/
def FixOk (w w' : World) (M : List Br) (r : Nat) (e : Ending) : Prop := (∃ A c, e = .returned (.agg #[.slice A M.length c, .int .i64 (r : Int)]) ∧ M.length ≤ c ∧ Rd w' w'.heap.size A (up M) ∧ Fr A w.heap.size) ∧ Below w.heap.size w w'

end Go.Proofs.YtignkplogkaigaaDoor

/-! Restrict of a valid diagram. -/
namespace Go.Proofs.YtignkplogkaigaaDoor
open Go.RowKit Dg St

/-- one argument of combine -/
def one (A0 : Option Addr) (m0 c0 r0 : Nat) (N0 : List Br) : Ca where
  A t := if t = 0 then A0 else none
  m t := if t = 0 then m0 else 0
  c t := if t = 0 then c0 else 0
  r t := if t = 0 then r0 else 0
  N t := if t = 0 then N0 else []
theorem one_ok {w : World} {A0 : Option Addr} {m0 c0 r0 : Nat} {N0 : List Br} (h0 : Rd w w.heap.size A0 (up N0)) (l0 : N0.length = m0) (b0 : m0 ≤ 4096) (o0 : Ord N0) (q0 : r0 < m0 + 2) : (one A0 m0 c0 r0 N0).Ok 1 w := by
  refine ⟨fun t ht => ?_, fun t => ?_, fun t => ?_, fun t => ?_, fun t => ?_, fun t ht => ?_⟩
  · obtain rfl : t = 0 := by omega
    exact h0
  · unfold one; simp only; split
    · exact l0
    · rfl
  · unfold one; simp only; split
    · exact b0
    · omega
  · unfold one; simp only; split
    · exact o0
    · exact good_nil.ord
  · unfold one; simp only; split
    · exact q0
    · omega
  · unfold one
    simp only
    rw [if_neg (by omega), if_neg (by omega), if_neg (by omega), if_neg (by omega)]
    exact ⟨rfl, rfl, rfl, rfl⟩
theorem one_pr {A0 : Option Addr} {m0 c0 r0 : Nat} {N0 : List Br} (q0 : r0 < m0 + 2) (hp : m0 + 2 ≤ 4096) : ∀ k, k ≤ 3 → (one A0 m0 c0 r0 N0).pr k ≤ 1000000000000 := by
  intro k hk
  obtain rfl | rfl | rfl | rfl : k = 0 ∨ k = 1 ∨ k = 2 ∨ k = 3 := by omega
  · show 1 ≤ _; omega
  · show 1 * (r0 + 1) ≤ _; omega
  · show 1 * (r0 + 1) * (0 + 1) ≤ _; omega
  · show 1 * (r0 + 1) * (0 + 1) * (0 + 1) ≤ _; omega
theorem one_same {A0 : Option Addr} {m0 c0 r0 : Nat} {N0 : List Br} : ∀ x, x < (one A0 m0 c0 r0 N0).r 1 + 1 → x < (one A0 m0 c0 r0 N0).r 2 + 1 → Den ((one A0 m0 c0 r0 N0).N 1) x = Den ((one A0 m0 c0 r0 N0).N 2) x := fun _ _ _ => rfl
theorem one_put {A0 : Option Addr} {m0 c0 r0 : Nat} {N0 : List Br} {f : Cfg → Bool} (hd : Den N0 r0 = f) : put 64 (fx 170 ((one A0 m0 c0 r0 N0).N 0) ((one A0 m0 c0 r0 N0).N 1) ((one A0 m0 c0 r0 N0).N 2) ((one A0 m0 c0 r0 N0).r 0) ((one A0 m0 c0 r0 N0).r 1) ((one A0 m0 c0 r0 N0).r 2)) [] = cn f := by
  have hfx : fx 170 ((one A0 m0 c0 r0 N0).N 0) ((one A0 m0 c0 r0 N0).N 1) ((one A0 m0 c0 r0 N0).N 2) ((one A0 m0 c0 r0 N0).r 0) ((one A0 m0 c0 r0 N0).r 1) ((one A0 m0 c0 r0 N0).r 2) = f := by
    show fx 170 N0 [] [] r0 0 0 = _
    funext x
    unfold fx
    rw [tt_restrict, hd]
  rw [hfx]
  rfl

end Go.Proofs.YtignkplogkaigaaDoor

/-! Exists of a valid diagram. -/
namespace Go.Proofs.YtignkplogkaigaaDoor
open Go.RowKit Dg St
attribute [local go_sem ↓] Go.wp_at_zero Go.wp_at_succ

end Go.Proofs.YtignkplogkaigaaDoor

/-! never: whether an operation's result is empty; Within and Disjoint of valid diagrams. -/
namespace Go.Proofs.YtignkplogkaigaaDoor
open Go.RowKit Dg St

/-- the world behind two boxes and the arguments' row -/
def V3w (w : World) (A0 A1 : Option Addr) (m0 c0 r0 m1 c1 r1 : Nat) : World := (((w.alloc (.cells #[.slice A0 m0 c0, .int .i64 (r0 : Int)] 40)).alloc (.cells #[.slice A1 m1 c1, .int .i64 (r1 : Int)] 40)).alloc (.cells #[.slice A0 m0 c0, .int .i64 (r0 : Int), .slice A1 m1 c1, .int .i64 (r1 : Int)] 40))
theorem V3w_below (w : World) (A0 A1 : Option Addr) (m0 c0 r0 m1 c1 r1 : Nat) : Below w.heap.size w (V3w w A0 A1 m0 c0 r0 m1 c1 r1) := (((Below.refl _ _).alloc (Nat.le_refl _) _).alloc (by simp) _).alloc (by simp; omega) _
theorem V3w_size (w : World) (A0 A1 : Option Addr) (m0 c0 r0 m1 c1 r1 : Nat) : (V3w w A0 A1 m0 c0 r0 m1 c1 r1).heap.size = w.heap.size + 1 + 1 + 1 := by simp [V3w]
theorem V3w_args (w : World) (A0 A1 : Option Addr) (m0 c0 r0 m1 c1 r1 : Nat) : Blk (V3w w A0 A1 m0 c0 r0 m1 c1 r1) (w.heap.size + 1 + 1) 4 (fun i => [Value.slice A0 m0 c0, .int .i64 (r0 : Int), .slice A1 m1 c1, .int .i64 (r1 : Int)].getD i undef) :=
  Blk.new (w := (w.alloc _).alloc _) (by simp) [.slice A0 m0 c0, .int .i64 (r0 : Int), .slice A1 m1 c1, .int .i64 (r1 : Int)] 40
theorem V3w_box (w : World) (A0 A1 : Option Addr) (m0 c0 r0 m1 c1 r1 : Nat) : Blk (V3w w A0 A1 m0 c0 r0 m1 c1 r1) w.heap.size 2 (fun i => [Value.slice A0 m0 c0, .int .i64 (r0 : Int)].getD i undef) ∧ Blk (V3w w A0 A1 m0 c0 r0 m1 c1 r1) (w.heap.size + 1) 2 (fun i => [Value.slice A1 m1 c1, .int .i64 (r1 : Int)].getD i undef) :=
  ⟨((Blk.new (w := w) rfl [.slice A0 m0 c0, .int .i64 (r0 : Int)] 40).alloc (by simp) _).alloc (by simp) _, (Blk.new (w := w.alloc _) (by simp) [.slice A1 m1 c1, .int .i64 (r1 : Int)] 40).alloc (by simp) _⟩

end Go.Proofs.YtignkplogkaigaaDoor

/-! Least of a valid diagram. -/
namespace Go.Proofs.YtignkplogkaigaaDoor
open Go.RowKit Dg St

theorem Tryd.infoCfg : (Tryd.prog.info? 32).map (fun i => (i.zero, i.size, i.bytes)) = some (some (.int .u64 0), 1, 8) := by kernel_rfl
theorem madeCells_U (n : Nat) : madeCells #[Value.int .u64 0] n = (List.replicate n (Value.int .u64 0)).toArray := by
  apply Array.ext'
  rw [toList_madeCells_one]
/-- the cells of least behind k rounds -/
def lk (M : List Br) (k i : Nat) : Value := if i < k + 2 then .int .u64 ((Lst M i : Nat) : Int) else .int .u64 0
theorem lk_lo (M : List Br) {k n : Nat} (h : n < k + 2) : lk M k n = .int .u64 ((Lst M n : Nat) : Int) := if_pos h
theorem lk_step (M : List Br) (k : Nat) : ∀ i, fup (lk M k) (k + 2) (.int .u64 ((Lst M (k + 2) : Nat) : Int)) i = lk M (k + 1) i := by
  intro i
  by_cases e : i = k + 2
  · subst e
    rw [fup_same]
    exact (if_pos (by omega)).symm
  · rw [fup_ne _ _ e]
    unfold lk
    by_cases h : i < k + 2
    · rw [if_pos h, if_pos (by omega)]
    · rw [if_neg h, if_neg (by omega)]
/-- the state of Least: the boxed diagram in block H, the row in block L -/
structure Ls (w wr : World) (H L m k : Nat) (A : Option Addr) (c r : Nat) (M : List Br) : Prop where
  hH : w.heap.size = H
  bel : Below H w wr
  x : Blk wr H 2 (fun i => [Value.slice A m c, .int .i64 (r : Int)].getD i undef)
  row : Blk wr L (m + 2) (lk M k)
  hl : H < L
theorem Ls.step {w wr : World} {H L m k c r nq : Nat} {A : Option Addr} {M : List Br} (h : Ls w wr H L m k A c r M) (hk : k < m) (u : Value) (hu : u = .int .u64 ((Lst M (k + 2) : Nat) : Int)) (o : Obj) :
    Ls w (((wr.alloc o).drewN nq).setCell ⟨L, k + 2, none⟩ u) H L m (k + 1) A c r M := by
  subst hu
  have hl := h.hl
  have hs : H ≤ wr.heap.size := by have := h.row.lt (by omega); omega
  have b0 : Below H w ((wr.alloc o).drewN nq) := below_drewN (h.bel.alloc hs o) nq
  have d := fun (a : World) (b n : Nat) F (hb : Blk a b n F) => hb.keep (w' := a.drewN nq) rfl
  exact ⟨h.hH, b0.setCell (by simp; omega) _, (d _ _ _ _ (h.x.alloc (by omega) o)).other (by simp; omega) _, ((d _ _ _ _ (h.row.alloc (by omega) o)).set (i := k + 2) (by omega) _).congr (fun i _ => lk_step M k i), hl⟩
theorem shl_one {V : Nat} (hV : V < 64) : IntKind.u64.wrap ((2 : Int) ^ V) = ((2 ^ V : Nat) : Int) := by
  have h : 2 ^ V < 2 ^ 64 := Nat.pow_lt_pow_right (by omega) hV
  have e : ((2 : Int) ^ V) = ((2 ^ V : Nat) : Int) := by push_cast; rfl
  rw [e, IntKind.wrap_u64]
  generalize 2 ^ V = q at *
  omega
/-- what Least answers -/
def LeOk (w w' : World) (f : Cfg → Bool) (e : Ending) : Prop := (∃ x : Nat, e = .returned (.tuple #[.int .u64 (x : Int), .bool true]) ∧ IsL f x ∧ x < 2 ^ 64) ∧ Below w.heap.size w w'

end Go.Proofs.YtignkplogkaigaaDoor

/-! countBranches: the count of a set that is neither empty nor all. -/
namespace Go.Proofs.YtignkplogkaigaaDoor
open Go.RowKit Dg St

theorem Tryd.infoU64 : (Tryd.prog.info? 25).map (fun i => (i.zero, i.size, i.bytes)) = some (some (.int .u64 0), 1, 8) := by kernel_rfl
/-- the halves behind k rounds -/
def hk2 (M : List Br) (d k i : Nat) : Value := if i < k + 2 then .int .u64 ((cnt d (Den M i) / 2 : Nat) : Int) else .int .u64 0
theorem hk_lo (M : List Br) {d k n : Nat} (h : n < k + 2) : hk2 M d k n = .int .u64 ((cnt d (Den M n) / 2 : Nat) : Int) := if_pos h
theorem hk_step (M : List Br) (d k : Nat) : ∀ i, fup (hk2 M d k) (k + 2) (.int .u64 ((cnt d (Den M (k + 2)) / 2 : Nat) : Int)) i = hk2 M d (k + 1) i := by
  intro i
  by_cases e : i = k + 2
  · subst e
    rw [fup_same]
    exact (if_pos (by omega)).symm
  · rw [fup_ne _ _ e]
    unfold hk2
    by_cases h : i < k + 2
    · rw [if_pos h, if_pos (by omega)]
    · rw [if_neg h, if_neg (by omega)]
/-- the count behind k rounds -/
def lastc (M : List Br) (d k : Nat) : Nat := if k = 0 then 0 else cnt d (Den M (k + 1))
theorem lastc_succ (M : List Br) (d k : Nat) : lastc M d (k + 1) = cnt d (Den M (k + 2)) := if_neg (by omega)
/-- the state of countBranches -/
structure Ks (w wr : World) (H L m k d : Nat) (A : Option Addr) (c r : Nat) (M : List Br) : Prop where
  hH : w.heap.size = H
  bel : Below H w wr
  x : Blk wr H 2 (fun i => [Value.slice A m c, .int .i64 (r : Int)].getD i undef)
  row : Blk wr L (m + 2) (hk2 M d k)
  hl : H < L
theorem Ks.step {w wr : World} {H L m k d c r nq : Nat} {A : Option Addr} {M : List Br} (h : Ks w wr H L m k d A c r M) (hk : k < m) (u : Value) (hu : u = .int .u64 ((cnt d (Den M (k + 2)) / 2 : Nat) : Int)) (o : Obj) :
    Ks w (((wr.alloc o).drewN nq).setCell ⟨L, k + 2, none⟩ u) H L m (k + 1) d A c r M := by
  subst hu
  have hl := h.hl
  have hs : H ≤ wr.heap.size := by have := h.row.lt (by omega); omega
  have b0 : Below H w ((wr.alloc o).drewN nq) := below_drewN (h.bel.alloc hs o) nq
  have d := fun (a : World) (b n : Nat) F (hb : Blk a b n F) => hb.keep (w' := a.drewN nq) rfl
  exact ⟨h.hH, b0.setCell (by simp; omega) _, (d _ _ _ _ (h.x.alloc (by omega) o)).other (by simp; omega) _, ((d _ _ _ _ (h.row.alloc (by omega) o)).set (i := k + 2) (by omega) _).congr (fun i _ => hk_step M _ k i), hl⟩

end Go.Proofs.YtignkplogkaigaaDoor

/-! Least of the empty set; the reference's Constant and Var. -/
namespace Go.Proofs.YtignkplogkaigaaDoor
open Go.RowKit Dg St

set_option maxHeartbeats 4000000 in
set_option maxRecDepth 100000 in
theorem rvar_ok (v : Nat) (w : World) (hv : v < 64) :
    Calls Tryd.prog 27 #[.int .i64 (v : Int)] w fun e w' => ∃ A, e = .returned (.tuple #[.agg #[.slice A 1 1, .int .i64 2], .int .i64 0]) ∧ Rd w' w'.heap.size A (up [(v, 0, 1)]) ∧ Below w.heap.size w w' := by
  have b1 := fun x y => (Below.refl w.heap.size w).alloc (Nat.le_refl _) (.cells #[x, y] 40)
  have hn : ¬ (v : Int) < 0 := by omega
  have hn2 : ¬ 63 < v := by omega
  have hn3 : ¬ (63 : Int) < (v : Int) := by omega
  go_enter Tryd.func27, Tryd.ntmps27
  go_wp2
  refine bodyPost_ret (v := .tuple #[.agg #[.slice (some ⟨w.heap.size + 1, 0, none⟩) 1 1, .int .i64 2], .int .i64 0]) ?_ rfl ⟨_, rfl, fun hp => ⟨w.heap.size + 1, 0, rfl, by simp, fun j hj => ?_⟩, ?_⟩
  · rw [results_cell_tmp rfl]
    go_simp
  · rw [up_len] at hj
    obtain rfl : j = 0 := by simpa using hj
    rw [iv_up, il_up, ih_up]
    refine ⟨?_, ?_, ?_⟩ <;> (go_simp; simp [bv, bl, bh])
  · exact (b1 _ _).alloc (by simp) _

end Go.Proofs.YtignkplogkaigaaDoor

/-! The reference's Same. -/
namespace Go.Proofs.YtignkplogkaigaaDoor
open Go.RowKit Dg St

set_option maxHeartbeats 4000000 in
set_option maxRecDepth 100000 in
theorem rsame_len (A A' : Option Addr) (c c' n : Nat) (l l' : List Bi) (r : Int) (w : World) (hl : Hid (l.length = n)) (hl' : Hid (l'.length = n)) (hn : n ≤ 9223372036854775800) (hr : Hid (Rd w w.heap.size A l)) (hr' : Hid (Rd w w.heap.size A' l')) :
    Calls Tryd.prog 97 #[.agg #[.slice A n c, .int .i64 r], .agg #[.slice A' n c', .int .i64 r]] w fun e w' => e = .returned (.bool (decide (l = l'))) ∧ Below w.heap.size w w' := by
  have b1 := ((Below.refl w.heap.size w).alloc (Nat.le_refl _) (.cells #[.slice A n c, .int .i64 r] 40)).alloc (by simp) (.cells #[.slice A' n c', .int .i64 r] 40)
  have hx1 : Hid (Blk ((w.alloc (.cells #[.slice A n c, .int .i64 r] 40)).alloc (.cells #[.slice A' n c', .int .i64 r] 40)) w.heap.size 2 (fun i => [Value.slice A n c, .int .i64 r].getD i undef)) := (Blk.new (w := w) rfl [.slice A n c, .int .i64 r] 40).alloc (by simp) _
  have hy1 : Hid (Blk ((w.alloc (.cells #[.slice A n c, .int .i64 r] 40)).alloc (.cells #[.slice A' n c', .int .i64 r] 40)) (w.heap.size + 1) 2 (fun i => [Value.slice A' n c', .int .i64 r].getD i undef)) := Blk.new (w := w.alloc _) (by simp) [.slice A' n c', .int .i64 r] 40
  have HR := Lib.hid ((hr.out.below b1).mono b1.size)
  have HR' := Lib.hid ((hr'.out.below b1).mono b1.size)
  have HB1 := Lib.hid b1
  have hrr : (r != r) = false := by simp
  have hnn : ((n : Int) != (n : Int)) = false := by simp
  clear b1
  go_enter Tryd.func97, Tryd.ntmps97
  go_wp2
  generalize ((w.alloc (.cells #[.slice A n c, .int .i64 r] 40)).alloc (.cells #[.slice A' n c', .int .i64 r] 40)) = w3 at *
  have hb0 := Below.refl w3.heap.size w3
  have HX := hx1
  have HY := hy1
  generalize hHH : w.heap.size = H at *
  go_loopw [5] (fun i wr => ∃ k m : Nat, k ≤ n ∧ i = .int .i64 k ∧ Hid (EqTo l l' k) ∧ wr = w3.drewN m) (fun i _ => n - (intOf i).toNat)
  case atStart => exact ⟨0, 0, Nat.zero_le _, rfl, fun j hj => absurd hj (by omega), rfl⟩
  case round =>
    obtain ⟨k, m, hk, rfl, hno, rfl⟩ := hrel
    have x0 : w3.cell? ⟨H, 0, none⟩ = some (.slice A n c) := (HX.out 0 (by omega)).1
    have y0 : w3.cell? ⟨H + 1, 0, none⟩ = some (.slice A' n c') := (HY.out 0 (by omega)).1
    by_cases hlt : k < n
    · obtain ⟨b, o, e, hb, hc⟩ := HR.out (by rw [hl.out]; omega)
      obtain ⟨b', o', e', hb', hc'⟩ := HR'.out (by rw [hl'.out]; omega)
      subst e
      subst e'
      obtain ⟨c1, c2, c3⟩ := hc k (by rw [hl.out]; exact hlt)
      obtain ⟨d1, d2, d3⟩ := hc' k (by rw [hl'.out]; exact hlt)
      have hnx : iv l k = iv l' k ∧ il l k = il l' k ∧ ih l k = ih l' k → EqTo l l' (k + 1) := fun he j hj => by
        rcases Nat.lt_or_ge j k with h | h
        · exact hno.out j h
        · rw [show j = k by omega]; exact he
      have hne : ¬ (iv l k = iv l' k ∧ il l k = il l' k ∧ ih l k = ih l' k) → l ≠ l' := fun h e => h (by rw [e]; exact ⟨rfl, rfl, rfl⟩)
      have HNX := Lib.hid hnx
      have HNE := Lib.hid hne
      have HB0 := Lib.hid hb0
      clear hnx hne hc hc' hb0
      generalize iv l k = V at *
      generalize il l k = L at *
      generalize ih l k = U at *
      generalize iv l' k = V' at *
      generalize il l' k = L' at *
      generalize ih l' k = U' at *
      have i1 : (0 : Int) ≤ (k : Int) := by omega
      have i2 : (k : Int) < (n : Int) := by omega
      have heq := fun W : World => run_neq_br W V L U V' L' U'
      by_cases q : V = V' ∧ L = L' ∧ U = U'
      · have hq : (V == V' && (L == L' && U == U')) = true := by simp [q.1, q.2.1, q.2.2]
        have HN := Lib.hid (HNX.out q)
        rw [hq] at heq
        clear q hq HNX HNE
        go_wp2
        go_quiet (fail)
        go_wp2
        go_roundw
        case rel => exact ⟨k + 1, _, by omega, by go_num, HN, rfl⟩
        case measure => simp [intOf]; omega
      · have hq : (V == V' && (L == L' && U == U')) = false := by
          rcases h : (V == V' && (L == L' && U == U')) with _ | _
          · rfl
          · simp at h; exact absurd h q
        have HN := Lib.hid (HNE.out q)
        rw [hq] at heq
        clear q hq HNX HNE
        go_wp2
        go_quiet (fail)
        go_wp2
        go_ret
        exact ⟨ret_bool (decide_eq_false HN.out).symm, by rw [hHH]; exact below_drewN (below_drewN HB1.out _) _⟩
    · obtain rfl : k = n := by omega
      have hy : Hid (l = l') := EqTo.all (hl.out.trans hl'.out.symm) (by rw [hl.out]; exact hno.out)
      have HB0 := Lib.hid hb0
      clear hb0
      go_wp2
      go_ret
      exact ⟨ret_bool (decide_eq_true hy.out).symm, by rw [hHH]; exact below_drewN HB1.out _⟩

set_option maxHeartbeats 2000000 in
set_option maxRecDepth 100000 in
/-- the reference's Same of any two diagrams: equal lists and roots -/
theorem rsame_any (A A' : Option Addr) (c c' n n' : Nat) (l l' : List Bi) (r r' : Int) (w : World) (hl : Hid (l.length = n)) (hl' : Hid (l'.length = n')) (hn : n ≤ 9223372036854775800) (hr : Hid (Rd w w.heap.size A l)) (hr' : Hid (Rd w w.heap.size A' l')) :
    Calls Tryd.prog 97 #[.agg #[.slice A n c, .int .i64 r], .agg #[.slice A' n' c', .int .i64 r']] w fun e w' => e = .returned (.bool (decide (r = r') && decide (l = l'))) ∧ Below w.heap.size w w' := by
  by_cases q : r = r'
  · subst q
    by_cases h : n = n'
    · subst h
      refine (rsame_len A A' c c' n l l' r w hl hl' hn hr hr').mono ?_
      rintro e w' ⟨rfl, hb⟩
      exact ⟨ret_bool (by simp), hb⟩
    · have hne : Hid (l ≠ l') := fun e => h (by rw [← hl.out, ← hl'.out, e])
      have hd : ((n : Int) != (n' : Int)) = true := bne_iff_ne.2 (by omega)
      have hrr : (r != r) = false := by simp
      have b1 := ((Below.refl w.heap.size w).alloc (Nat.le_refl _) (.cells #[.slice A n c, .int .i64 r] 40)).alloc (by simp) (.cells #[.slice A' n' c', .int .i64 r] 40)
      have HB1 := Lib.hid b1
      clear h b1
      go_enter Tryd.func97, Tryd.ntmps97
      go_wp2
      go_ret
      exact ⟨ret_bool (by rw [decide_eq_false hne.out]; simp), HB1.out⟩
  · have hq : (r != r') = true := bne_iff_ne.2 q
    have HQ : Hid (decide (r = r') = false) := decide_eq_false q
    have b1 := ((Below.refl w.heap.size w).alloc (Nat.le_refl _) (.cells #[.slice A n c, .int .i64 r] 40)).alloc (by simp) (.cells #[.slice A' n' c', .int .i64 r'] 40)
    have HB1 := Lib.hid b1
    clear q b1
    go_enter Tryd.func97, Tryd.ntmps97
    go_wp2
    go_ret
    exact ⟨ret_bool (by rw [HQ.out]; simp), HB1.out⟩

end Go.Proofs.YtignkplogkaigaaDoor

/-! The reference's level and constant. -/
namespace Go.Proofs.YtignkplogkaigaaDoor
open Go.RowKit Dg St

set_option maxHeartbeats 2000000 in
set_option maxRecDepth 100000 in
theorem rlevel_ok (m c n : Nat) (r : Int) (A : Option Addr) (M : List Br) (w : World) (hrd : Hid (Rd w w.heap.size A (up M))) (hl : Hid (M.length = m)) (hm : m ≤ 1000000) (hn : n < m + 2) :
    Calls Tryd.prog 104 #[.agg #[.slice A m c, .int .i64 r], .int .i64 (n : Int)] w fun e w' => e = .returned (.int .i64 ((lev M n : Nat) : Int)) ∧ Below w.heap.size w w' := by
  have b1 := (Below.refl w.heap.size w).alloc (Nat.le_refl _) (.cells #[.slice A m c, .int .i64 r] 40)
  have hrd1 := Lib.hid ((hrd.out.below b1).mono b1.size)
  have HB1 := Lib.hid b1
  by_cases h2 : n < 2
  · have HL : Hid (lev M n = 64) := lev_const h2
    clear b1
    go_enter Tryd.func104, Tryd.ntmps104
    go_wp2
    go_ret
    exact ⟨ret_i (by rw [HL.out]; rfl), HB1.out⟩
  · obtain ⟨k, rfl⟩ : ∃ k, n = k + 2 := ⟨n - 2, by omega⟩
    have hkm : k < m := by omega
    have HL : Hid (lev M (k + 2) = bv M k) := lev_two k
    obtain ⟨b, o, e, hb, hc⟩ := hrd.out (by rw [up_len, hl.out]; omega)
    subst e
    obtain ⟨d0, _, _⟩ := hc k (by rw [up_len, hl.out]; exact hkm)
    rw [iv_up] at d0
    have hbn : ¬ b = w.heap.size := by omega
    have i1 : (0 : Int) ≤ (k : Int) := by omega
    have i2 : (k : Int) < (m : Int) := by omega
    clear b1 hc
    generalize hV : bv M k = V at *
    have HV := Lib.hid hV
    clear hV
    go_enter Tryd.func104, Tryd.ntmps104
    go_wp2
    go_ret
    exact ⟨ret_i (by rw [HL.out]), HB1.out⟩

/-- the reference's operations on constants -/
def rcon (op x y : Nat) : Nat := if op = 0 then x * y else if op = 1 then max x y else (x + y) % 2
set_option maxHeartbeats 2000000 in
set_option maxRecDepth 100000 in
theorem rcons_ok (g op x y : Nat) (w : World) (hop : w.cell? ⟨g, 4, none⟩ = some (.int .i64 (op : Int))) (ho : op ≤ 2) (hx : x < 2) (hy : y < 2) :
    Calls Tryd.prog 106 #[.pointer (some ⟨g, 0, none⟩), .int .i64 (x : Int), .int .i64 (y : Int)] w fun e w' => e = .returned (.int .i64 ((rcon op x y : Nat) : Int)) ∧ w = w' := by
  obtain rfl | rfl | rfl : op = 0 ∨ op = 1 ∨ op = 2 := by omega
  all_goals
    obtain rfl | rfl : x = 0 ∨ x = 1 := by omega
    all_goals
      obtain rfl | rfl : y = 0 ∨ y = 1 := by omega
      all_goals
        go_enter Tryd.func106, Tryd.ntmps106
        go_wp2
        go_ret
        exact ⟨rfl, rfl⟩

end Go.Proofs.YtignkplogkaigaaDoor

/-! The reference's sides. -/
namespace Go.Proofs.YtignkplogkaigaaDoor
open Go.RowKit Dg St

set_option maxHeartbeats 2000000 in
set_option maxRecDepth 100000 in
theorem rsides_ok (m c n v : Nat) (r : Int) (A : Option Addr) (M : List Br) (w : World) (hrd : Hid (Rd w w.heap.size A (up M))) (hl : Hid (M.length = m)) (hm : m ≤ 1000000) (hn : n < m + 2) (hv : v < 64) :
    Calls Tryd.prog 107 #[.agg #[.slice A m c, .int .i64 r], .int .i64 (n : Int), .int .i64 (v : Int)] w fun e w' => e = .returned (.tuple #[.int .i64 ((sd M v n false : Nat) : Int), .int .i64 ((sd M v n true : Nat) : Int)]) ∧ Below w.heap.size w w' := by
  have b1 := (Below.refl w.heap.size w).alloc (Nat.le_refl _) (.cells #[.slice A m c, .int .i64 r] 40)
  have hrd1 := Lib.hid ((hrd.out.below b1).mono b1.size)
  have hx1 := Lib.hid (Blk.new (w := w) rfl [.slice A m c, .int .i64 r] 40)
  have HB1 := Lib.hid b1
  clear b1
  by_cases h : 2 ≤ n ∧ bv M (n - 2) = v
  · obtain ⟨h2, hv2⟩ := h
    obtain ⟨k, rfl⟩ : ∃ k, n = k + 2 := ⟨n - 2, by omega⟩
    rw [Nat.add_sub_cancel] at hv2
    have hkm : k < m := by omega
    have hlv : lev M (k + 2) = v := (lev_two k).trans hv2
    have hne : (((lev M (k + 2) : Nat) : Int) != (v : Int)) = false := by rw [hlv]; simp
    have HS : Hid (sd M v (k + 2) false = bl M k ∧ sd M v (k + 2) true = bh M k) := by
      unfold sd
      rw [Nat.add_sub_cancel]
      exact ⟨(if_pos ⟨by omega, hv2⟩).trans rfl, (if_pos ⟨by omega, hv2⟩).trans rfl⟩
    have HQ : Hid (k < M.length) := by rw [hl.out]; exact hkm
    have HLV := Lib.hid (rlevel_ok m c (k + 2) r A M _ hrd1 hl hm hn)
    clear hlv hv2 h2
    generalize lev M (k + 2) = lv at *
    obtain ⟨b, o, e, hb, hc⟩ := hrd.out (by rw [up_len, hl.out]; omega)
    subst e
    obtain ⟨_, d1, d2⟩ := hc k (by rw [up_len, hl.out]; exact hkm)
    rw [il_up] at d1
    rw [ih_up] at d2
    have D1 := Lib.hid d1
    have D2 := Lib.hid d2
    clear d1 d2 hc
    generalize bl M k = LL at *
    generalize bh M k = UU at *
    go_enter Tryd.func107, Tryd.ntmps107
    go_wp2_with (go_at_call 104; refine HLV.out.mono ?_; rintro e w2 ⟨rfl, hb2⟩; have HB2 := Lib.hid (HB1.out.trans (hb2.mono HB1.out.size)); have hx0 : w2.cell? ⟨w.heap.size, 0, none⟩ = some (.slice (some ⟨b, o, none⟩) m c) := ((hx1.out.below (by simp) hb2) 0 (by simp)).1; clear hb2)
    have d1 := (HB2.out.cell (p := ⟨b, o + k * 3 + 1, none⟩) hb).trans D1.out
    have d2 := (HB2.out.cell (p := ⟨b, o + k * 3 + 2, none⟩) hb).trans D2.out
    have i1 : (0 : Int) ≤ (k : Int) := by omega
    have i2 : (k : Int) < (m : Int) := by omega
    go_quiet (fail)
    go_wp2
    go_ret2
    exact ⟨by rw [HS.out.1, HS.out.2]; rfl, below_drewN HB2.out _⟩
  · have hne : ((lev M n : Nat) : Int) ≠ (v : Int) := fun e => h (by
      by_cases h2 : n < 2
      · rw [lev_const h2] at e; omega
      · refine ⟨by omega, ?_⟩
        have : lev M n = bv M (n - 2) := by unfold lev; rw [if_neg h2]
        omega)
    have hq : (((lev M n : Nat) : Int) != (v : Int)) = true := bne_iff_ne.2 hne
    have HS : Hid (sd M v n false = n ∧ sd M v n true = n) := by unfold sd; rw [if_neg h, if_neg h]; exact ⟨rfl, rfl⟩
    clear h hne
    have HLV := Lib.hid (rlevel_ok m c n r A M _ hrd1 hl hm hn)
    generalize lev M n = lv at *
    go_enter Tryd.func107, Tryd.ntmps107
    go_wp2_with (go_at_call 104; refine HLV.out.mono ?_; rintro e w2 ⟨rfl, hb2⟩; have HB2 := Lib.hid (HB1.out.trans (hb2.mono HB1.out.size)); clear hb2)
    go_ret2
    exact ⟨by rw [HS.out.1, HS.out.2]; rfl, HB2.out⟩

end Go.Proofs.YtignkplogkaigaaDoor
