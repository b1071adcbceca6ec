/-
  Plain mathematics and contracts of package diagram, several texts in one: DBits, DSplit.
-/
import Derived.Test.YtignkplogkaigaaDoorMc
import Derived.Test.YtignkplogkaigaaDoorMa

/-! The product's row operations as numbers of eight bits. -/
namespace Go.Proofs.YtignkplogkaigaaDoor
open Go.RowKit Dg St

theorem band8 {a b : Nat} (ha : a < 256) (hb : b < 256) : bits .and .u8 (a : Int) (b : Int) = ((a &&& b : Nat) : Int) := by
  have h : ∀ a : Nat, a < 256 → ∀ b : Nat, b < 256 → bits .and .u8 (a : Int) (b : Int) = ((a &&& b : Nat) : Int) := by decide +kernel
  exact h a ha b hb
theorem bandn8 {a b : Nat} (ha : a < 256) (hb : b < 256) : bits .andNot .u8 (a : Int) (b : Int) = ((andn a b : Nat) : Int) := by
  have h : ∀ a : Nat, a < 256 → ∀ b : Nat, b < 256 → bits .andNot .u8 (a : Int) (b : Int) = ((andn a b : Nat) : Int) := by decide +kernel
  exact h a ha b hb
theorem and_lt8 {a b : Nat} (ha : a < 256) : a &&& b < 256 := Nat.lt_of_le_of_lt Nat.and_le_left ha
theorem andn_lt8 {a b : Nat} (ha : a < 256) : andn a b < 256 := Nat.lt_of_le_of_lt Nat.and_le_left ha
theorem insd_lt (i : Nat) : insd i < 256 := by
  unfold insd
  split
  · omega
  · split <;> omega

end Go.Proofs.YtignkplogkaigaaDoor

/-! The product's split: the least condition of a tuple's branches, and its two sides. (Written by dsplit.py.) -/
namespace Go.Proofs.YtignkplogkaigaaDoor
open Go.RowKit Dg St

/-- argument t of the product in block g: its slice reads as M -/
structure Arg (w : World) (g t : Nat) (A : Option Addr) (m c : Nat) (M : List Br) : Prop where
  cell : w.cell? ⟨g, t, none⟩ = some (.slice A m c)
  rd : Rd w w.heap.size A (up M)
  len : M.length = m
  lm : m ≤ 1000000
  ord : Ord M
theorem Arg.below {w w' : World} {g t m c : Nat} {A : Option Addr} {M : List Br} (h : Arg w g t A m c M) (hb : Below w.heap.size w w') : Arg w' g t A m c M :=
  ⟨(hb.cell (p := ⟨g, t, none⟩) (block_lt_of_cell h.cell)).trans h.cell, (h.rd.below hb).mono hb.size, h.len, h.lm, h.ord⟩
/-- a branch of an argument -/
theorem Arg.at_ {w : World} {g t m c k : Nat} {A : Option Addr} {M : List Br} (h : Arg w g t A m c M) (hk : k < m) : ∃ b o, A = some ⟨b, o, none⟩ ∧ b < w.heap.size ∧
    w.cell? ⟨b, o + k * 3, none⟩ = some (.int .i64 ((bv M k : Nat) : Int)) ∧ w.cell? ⟨b, o + k * 3 + 1, none⟩ = some (.int .i64 ((bl M k : Nat) : Int)) ∧ w.cell? ⟨b, o + k * 3 + 2, none⟩ = some (.int .i64 ((bh M k : Nat) : Int)) := by
  have hl : k < (up M).length := by rw [up_len, h.len]; exact hk
  obtain ⟨b, o, e, hb, hc⟩ := h.rd (by omega)
  obtain ⟨c1, c2, c3⟩ := hc k hl
  rw [iv_up] at c1
  rw [il_up] at c2
  rw [ih_up] at c3
  exact ⟨b, o, e, hb, c1, c2, c3⟩
theorem Arg.br {w : World} {g t m c k : Nat} {A : Option Addr} {M : List Br} (h : Arg w g t A m c M) (hk : k < m) : bv M k < 64 ∧ bl M k < k + 2 ∧ bh M k < k + 2 := by
  obtain ⟨h1, h2, h3, _, _⟩ := h.ord k (by rw [h.len]; exact hk)
  exact ⟨h1, h2, h3⟩

/-- the least condition of the first t arguments -/
def vm (A B C : List Br) (i j k : Nat) : Nat → Nat
  | 0 => 64
  | 1 => min 64 (lev A i)
  | 2 => min (min 64 (lev A i)) (lev B j)
  | _ => min (min (min 64 (lev A i)) (lev B j)) (lev C k)
theorem vm_le (A B C : List Br) (i j k t : Nat) : vm A B C i j k t ≤ 64 := by
  unfold vm
  split <;> omega
theorem lev_two {M : List Br} (n : Nat) : lev M (n + 2) = bv M n := by unfold lev; rw [if_neg (by omega), Nat.add_sub_cancel]
/-- entry s of a side behind t rounds -/
def mx (t s a b : Nat) : Nat := if s < t then a else b
theorem mx_lt {t s a b : Nat} (h : s < t) : mx t s a b = a := if_pos h
theorem mx_ge {t s a b : Nat} (h : ¬ s < t) : mx t s a b = b := if_neg h


/-- block b holds three ints and may be written -/
structure C3 (w : World) (b : Nat) (x y z : Nat) : Prop where
  a0 : w.cell? ⟨b, 0, none⟩ = some (.int .i64 (x : Int))
  a1 : w.cell? ⟨b, 1, none⟩ = some (.int .i64 (y : Int))
  a2 : w.cell? ⟨b, 2, none⟩ = some (.int .i64 (z : Int))
  f0 : w.frozen? ⟨b, 0, none⟩ = false
  f1 : w.frozen? ⟨b, 1, none⟩ = false
  f2 : w.frozen? ⟨b, 2, none⟩ = false
theorem C3.keep {w w' : World} {b x y z : Nat} (h : C3 w b x y z) (hk : w'.heap[b]? = w.heap[b]?) : C3 w' b x y z :=
  ⟨(World.cell?_of_block hk).trans h.a0, (World.cell?_of_block hk).trans h.a1, (World.cell?_of_block hk).trans h.a2, (World.frozen?_of_block hk).trans h.f0, (World.frozen?_of_block hk).trans h.f1, (World.frozen?_of_block hk).trans h.f2⟩
theorem C3.below {w w' : World} {b x y z : Nat} (h : C3 w b x y z) (hb : Below w.heap.size w w') : C3 w' b x y z := h.keep (hb.block b (block_lt_of_cell h.a0))
theorem C3.lt {w : World} {b x y z : Nat} (h : C3 w b x y z) : b < w.heap.size := block_lt_of_cell h.a0
theorem C3.new {w : World} {H : Nat} (hH : w.heap.size = H) (x y z : Nat) (T : Nat) : C3 (w.alloc (.cells #[.int .i64 (x : Int), .int .i64 (y : Int), .int .i64 (z : Int)] T)) H x y z := by
  subst hH
  refine ⟨?_, ?_, ?_, ?_, ?_, ?_⟩ <;> go_simp
theorem C3.set0 {w : World} {b x y z : Nat} (h : C3 w b x y z) (u : Nat) : C3 (w.setCell ⟨b, 0, none⟩ (.int .i64 (u : Int))) b u y z := by
  obtain ⟨h0, h1, h2, g0, g1, g2⟩ := h
  refine ⟨World.cell?_setCell_same _ _ _ h0, ?_, ?_, ?_, ?_, ?_⟩ <;> go_simp
theorem C3.set1 {w : World} {b x y z : Nat} (h : C3 w b x y z) (u : Nat) : C3 (w.setCell ⟨b, 1, none⟩ (.int .i64 (u : Int))) b x u z := by
  obtain ⟨h0, h1, h2, g0, g1, g2⟩ := h
  refine ⟨?_, World.cell?_setCell_same _ _ _ h1, ?_, ?_, ?_, ?_⟩ <;> go_simp
theorem C3.set2 {w : World} {b x y z : Nat} (h : C3 w b x y z) (u : Nat) : C3 (w.setCell ⟨b, 2, none⟩ (.int .i64 (u : Int))) b x y u := by
  obtain ⟨h0, h1, h2, g0, g1, g2⟩ := h
  refine ⟨?_, ?_, World.cell?_setCell_same _ _ _ h2, ?_, ?_, ?_⟩ <;> go_simp
theorem C3.other {w : World} {b x y z : Nat} (h : C3 w b x y z) {p : Addr} (hp : p.block ≠ b) (u : Value) : C3 (w.setCell p u) b x y z := h.keep (Below.heap_setCell _ _ _ _ (fun e => hp e.symm))
theorem C3.drew {w : World} {b x y z : Nat} (h : C3 w b x y z) : C3 w.drew b x y z := h.keep rfl

/-- the state of split: the boxed tuple in block H, the sides in H + 1 and H + 2 -/
structure Sp (w wr : World) (H i j k l0 l1 l2 u0 u1 u2 : Nat) : Prop where
  hH : w.heap.size = H
  sz : H + 2 < wr.heap.size
  bel : Below H w wr
  x : C3 wr H i j k
  l : C3 wr (H + 1) l0 l1 l2
  u : C3 wr (H + 2) u0 u1 u2
theorem Sp.drew {w wr : World} {H i j k l0 l1 l2 u0 u1 u2 : Nat} (h : Sp w wr H i j k l0 l1 l2 u0 u1 u2) : Sp w wr.drew H i j k l0 l1 l2 u0 u1 u2 :=
  ⟨h.hH, h.sz, below_drewN h.bel 1, h.x.drew, h.l.drew, h.u.drew⟩

theorem Sp.alloc {w wr : World} {H i j k l0 l1 l2 u0 u1 u2 : Nat} (h : Sp w wr H i j k l0 l1 l2 u0 u1 u2) (o : Obj) : Sp w (wr.alloc o) H i j k l0 l1 l2 u0 u1 u2 := by
  have b := (Below.refl wr.heap.size wr).alloc (Nat.le_refl _) o
  have := h.sz
  exact ⟨h.hH, Nat.lt_of_lt_of_le h.sz b.size, h.bel.alloc (by omega) o, h.x.below b, h.l.below b, h.u.below b⟩
theorem Sp.set {w wr : World} {H i j k l0 l1 l2 u0 u1 u2 : Nat} (h : Sp w wr H i j k l0 l1 l2 u0 u1 u2) {b n : Nat} (hb : H < b) (v : Value) : Below H w (wr.setCell ⟨b, n, none⟩ v) ∧ H + 2 < (wr.setCell ⟨b, n, none⟩ v).heap.size ∧ C3 (wr.setCell ⟨b, n, none⟩ v) H i j k :=
  ⟨h.bel.setCell (by simp; omega) v, by have := h.sz; simpa [World.setCell] using this, h.x.other (by simp; omega) v⟩
theorem Sp.low0 {w wr : World} {H i j k l0 l1 l2 u0 u1 u2 : Nat} (h : Sp w wr H i j k l0 l1 l2 u0 u1 u2) (a : Nat) : Sp w (wr.setCell ⟨H + 1, 0, none⟩ (.int .i64 (a : Int))) H i j k a l1 l2 u0 u1 u2 := by
  obtain ⟨q1, q2, q3⟩ := h.set (b := H + 1) (n := 0) (by omega) (.int .i64 (a : Int))
  exact ⟨h.hH, q2, q1, q3, h.l.set0 a, h.u.other (by simp) _⟩
theorem Sp.high0 {w wr : World} {H i j k l0 l1 l2 u0 u1 u2 : Nat} (h : Sp w wr H i j k l0 l1 l2 u0 u1 u2) (b : Nat) : Sp w (wr.setCell ⟨H + 2, 0, none⟩ (.int .i64 (b : Int))) H i j k l0 l1 l2 b u1 u2 := by
  obtain ⟨q1, q2, q3⟩ := h.set (b := H + 2) (n := 0) (by omega) (.int .i64 (b : Int))
  exact ⟨h.hH, q2, q1, q3, h.l.other (by simp) _, h.u.set0 b⟩
theorem Sp.low1 {w wr : World} {H i j k l0 l1 l2 u0 u1 u2 : Nat} (h : Sp w wr H i j k l0 l1 l2 u0 u1 u2) (a : Nat) : Sp w (wr.setCell ⟨H + 1, 1, none⟩ (.int .i64 (a : Int))) H i j k l0 a l2 u0 u1 u2 := by
  obtain ⟨q1, q2, q3⟩ := h.set (b := H + 1) (n := 1) (by omega) (.int .i64 (a : Int))
  exact ⟨h.hH, q2, q1, q3, h.l.set1 a, h.u.other (by simp) _⟩
theorem Sp.high1 {w wr : World} {H i j k l0 l1 l2 u0 u1 u2 : Nat} (h : Sp w wr H i j k l0 l1 l2 u0 u1 u2) (b : Nat) : Sp w (wr.setCell ⟨H + 2, 1, none⟩ (.int .i64 (b : Int))) H i j k l0 l1 l2 u0 b u2 := by
  obtain ⟨q1, q2, q3⟩ := h.set (b := H + 2) (n := 1) (by omega) (.int .i64 (b : Int))
  exact ⟨h.hH, q2, q1, q3, h.l.other (by simp) _, h.u.set1 b⟩
theorem Sp.low2 {w wr : World} {H i j k l0 l1 l2 u0 u1 u2 : Nat} (h : Sp w wr H i j k l0 l1 l2 u0 u1 u2) (a : Nat) : Sp w (wr.setCell ⟨H + 1, 2, none⟩ (.int .i64 (a : Int))) H i j k l0 l1 a u0 u1 u2 := by
  obtain ⟨q1, q2, q3⟩ := h.set (b := H + 1) (n := 2) (by omega) (.int .i64 (a : Int))
  exact ⟨h.hH, q2, q1, q3, h.l.set2 a, h.u.other (by simp) _⟩
theorem Sp.high2 {w wr : World} {H i j k l0 l1 l2 u0 u1 u2 : Nat} (h : Sp w wr H i j k l0 l1 l2 u0 u1 u2) (b : Nat) : Sp w (wr.setCell ⟨H + 2, 2, none⟩ (.int .i64 (b : Int))) H i j k l0 l1 l2 u0 u1 b := by
  obtain ⟨q1, q2, q3⟩ := h.set (b := H + 2) (n := 2) (by omega) (.int .i64 (b : Int))
  exact ⟨h.hH, q2, q1, q3, h.l.other (by simp) _, h.u.set2 b⟩
theorem Sp.args {w wr : World} {H i j k l0 l1 l2 u0 u1 u2 g t m c : Nat} {A : Option Addr} {M : List Br} (h : Sp w wr H i j k l0 l1 l2 u0 u1 u2) (ha : Arg w g t A m c M) : Arg wr g t A m c M := by
  have := h.bel
  rw [← h.hH] at this
  exact ha.below this

end Go.Proofs.YtignkplogkaigaaDoor
