/-
  Plain mathematics and contracts of package diagram, several texts in one: DSettle, DPi, DNumA.
-/
import Derived.Test.YtignkplogkaigaaDoorMd
import Derived.Test.YtignkplogkaigaaDoorMc

/-! The product's settle: the constants of a tuple decide the result, or the arguments that do not matter are put to 0. (Written by dsettle.py.) -/
namespace Go.Proofs.YtignkplogkaigaaDoor
open Go.RowKit Dg St

/-- the package's variable inside -/
structure Ins (w : World) (d : Nat) : Prop where
  c0 : w.cell? ⟨d, 0, none⟩ = some (.int .u8 170)
  c1 : w.cell? ⟨d, 1, none⟩ = some (.int .u8 204)
  c2 : w.cell? ⟨d, 2, none⟩ = some (.int .u8 240)
theorem Ins.below {w w' : World} {d : Nat} (h : Ins w d) (hb : Below w.heap.size w w') : Ins w' d := by
  have hd : d < w.heap.size := block_lt_of_cell h.c0
  exact ⟨(hb.cell (p := ⟨d, 0, none⟩) hd).trans h.c0, (hb.cell (p := ⟨d, 1, none⟩) hd).trans h.c1, (hb.cell (p := ⟨d, 2, none⟩) hd).trans h.c2⟩
theorem C3.drewN {w : World} {b x y z : Nat} (h : C3 w b x y z) (n : Nat) : C3 (w.drewN n) b x y z := h.keep rfl

/-- the rows behind t rounds of the first loop -/
def rw1 (i j k : Nat) : Nat → Nat
  | 0 => 255
  | 1 => nrow 255 0 (cls i)
  | 2 => nrow (nrow 255 0 (cls i)) 1 (cls j)
  | _ => rows3 (cls i) (cls j) (cls k)
/-- the rows behind t rounds of the second loop -/
def rw2 (T i j k : Nat) : Nat → Nat
  | 0 => rows4 (cls i) (cls j) (cls k) (decide (j = k))
  | 1 => r0 T (cls i) (cls j) (cls k) (decide (j = k))
  | 2 => r1 T (cls i) (cls j) (cls k) (decide (j = k))
  | _ => r2 T (cls i) (cls j) (cls k) (decide (j = k))
theorem nrow_lt {R t k : Nat} (h : R < 256) : nrow R t k < 256 := by
  unfold nrow
  split
  · exact andn_lt8 h
  · split
    · exact and_lt8 h
    · exact h
theorem rw1_lt (i j k t : Nat) : rw1 i j k t < 256 := by
  unfold rw1
  split
  · omega
  · exact nrow_lt (by omega)
  · exact nrow_lt (nrow_lt (by omega))
  · exact nrow_lt (nrow_lt (nrow_lt (by omega)))
theorem rows4_lt (a b c : Nat) (e : Bool) : rows4 a b c e < 256 := by
  have h : rows3 a b c < 256 := nrow_lt (nrow_lt (nrow_lt (by omega)))
  unfold rows4
  split
  · exact andn_lt8 h
  · exact h
theorem arow_lt {T R t k : Nat} (h : R < 256) : arow T R t k < 256 := by
  unfold arow
  split
  · exact andn_lt8 h
  · exact h
theorem rw2_lt (T i j k t : Nat) : rw2 T i j k t < 256 := by
  unfold rw2
  split
  · exact rows4_lt _ _ _ _
  · exact arow_lt (rows4_lt _ _ _ _)
  · exact arow_lt (arow_lt (rows4_lt _ _ _ _))
  · exact arow_lt (arow_lt (arow_lt (rows4_lt _ _ _ _)))
/-- what settle answers -/
def SetOut (T i j k x y z : Nat) (r : Int) : Prop :=
  (code T (cls i) (cls j) (cls k) (decide (j = k)) = 0 → r = 0) ∧ (code T (cls i) (cls j) (cls k) (decide (j = k)) = 1 → r = 1) ∧
  (code T (cls i) (cls j) (cls k) (decide (j = k)) = 2 → r = -1 ∧ x = zap (z0 T (cls i) (cls j) (cls k) (decide (j = k))) i ∧ y = zap (z1 T (cls i) (cls j) (cls k) (decide (j = k))) j ∧ z = zap (z2 T (cls i) (cls j) (cls k) (decide (j = k))) k)

/-- the state of settle: the boxed tuple in block H, the result's cell in H + 1 -/
structure Se (w wr : World) (H x y z : Nat) : Prop where
  hH : w.heap.size = H
  sz : H + 1 < wr.heap.size
  bel : Below H w wr
  x : C3 wr H x y z
  l : C3 wr (H + 1) 0 0 0
theorem Se.drewN {w wr : World} {H x y z : Nat} (h : Se w wr H x y z) (n : Nat) : Se w (wr.drewN n) H x y z := ⟨h.hH, h.sz, below_drewN h.bel n, h.x.drewN n, h.l.drewN n⟩
theorem Se.zap0 {w wr : World} {H x y z : Nat} (h : Se w wr H x y z) : Se w (wr.setCell ⟨H, 0, none⟩ (.int .i64 0)) H 0 y z :=
  ⟨h.hH, by have := h.sz; simpa [World.setCell] using this, h.bel.setCell (by simp) _, h.x.set0 0, h.l.other (by simp) _⟩
theorem Se.zap1 {w wr : World} {H x y z : Nat} (h : Se w wr H x y z) : Se w (wr.setCell ⟨H, 1, none⟩ (.int .i64 0)) H x 0 z :=
  ⟨h.hH, by have := h.sz; simpa [World.setCell] using this, h.bel.setCell (by simp) _, h.x.set1 0, h.l.other (by simp) _⟩
theorem Se.zap2 {w wr : World} {H x y z : Nat} (h : Se w wr H x y z) : Se w (wr.setCell ⟨H, 2, none⟩ (.int .i64 0)) H x y 0 :=
  ⟨h.hH, by have := h.sz; simpa [World.setCell] using this, h.bel.setCell (by simp) _, h.x.set2 0, h.l.other (by simp) _⟩

theorem Se.fin {w wr : World} {H x y z : Nat} (h : Se w wr H x y z) : C3 (((wr.setCell ⟨H + 1, 0, none⟩ (.int .i64 (x : Int))).setCell ⟨H + 1, 1, none⟩ (.int .i64 (y : Int))).setCell ⟨H + 1, 2, none⟩ (.int .i64 (z : Int))) (H + 1) x y z ∧
    Below H w (((wr.setCell ⟨H + 1, 0, none⟩ (.int .i64 (x : Int))).setCell ⟨H + 1, 1, none⟩ (.int .i64 (y : Int))).setCell ⟨H + 1, 2, none⟩ (.int .i64 (z : Int))) :=
  ⟨((h.l.set0 x).set1 y).set2 z, ((h.bel.setCell (by simp) _).setCell (by simp) _).setCell (by simp) _⟩
/-- one test of the second loop -/
theorem away_two {T R t n : Nat} (h : ¬ 2 ≤ n) : away T R t (cls n) = false := by
  unfold away
  have h2 : ¬ 2 ≤ cls n := by
    unfold cls
    split
    · omega
    · split <;> omega
  rw [decide_eq_false h2, Bool.false_and]
theorem away_ge {T R t n : Nat} (h : 2 ≤ n) : away T R t (cls n) = decide ((T &&& R &&& insd t) >>> (1 <<< t) = andn (T &&& R) (insd t)) := by
  unfold away
  have : cls n = 2 := by unfold cls; rw [if_neg (by omega), if_neg (by omega)]
  rw [this, decide_eq_true (Nat.le_refl 2), Bool.true_and]

end Go.Proofs.YtignkplogkaigaaDoor

/-! The state of the product while it makes branches: its constant cells, the table, the memory; what stays of it while others write. -/
namespace Go.Proofs.YtignkplogkaigaaDoor
open Go.RowKit Dg St

/-- what the product's walk never changes: the slices, the sizes, the truth table, the limit -/
structure Pr where
  A0 : Option Addr
  A1 : Option Addr
  A2 : Option Addr
  m0 : Nat
  m1 : Nat
  m2 : Nat
  c0 : Nat
  c1 : Nat
  c2 : Nat
  A : List Br
  B : List Br
  C : List Br
  s0 : Nat
  s1 : Nat
  s2 : Nat
  T : Nat
  lim : Nat
/-- it is a product of the package -/
structure Pr.Ok (P : Pr) : Prop where
  tab : P.T ∈ tabs
  same : ∀ n, n < P.s1 → n < P.s2 → Den P.B n = Den P.C n
  l0 : P.s0 ≤ P.m0 + 2
  l1 : P.s1 ≤ P.m1 + 2
  l2 : P.s2 ≤ P.m2 + 2
  b0 : P.s0 ≤ 5000
  b1 : P.s1 ≤ 5000
  b2 : P.s2 ≤ 5000
  lim : P.lim ≤ 4096
theorem tab_lt {T : Nat} (h : T ∈ tabs) : T < 256 := by
  unfold tabs at h
  simp only [List.mem_cons, List.not_mem_nil, or_false] at h
  omega

/-- argument t, its row below base -/
structure Ag (w : World) (base g t : Nat) (A : Option Addr) (m c : Nat) (M : List Br) : Prop where
  cell : w.cell? ⟨g, t, none⟩ = some (.slice A m c)
  rd : Rd w base A (up M)
  len : M.length = m
  lm : m ≤ 1000000
  ord : Ord M
theorem Ag.arg {w : World} {base g t m c : Nat} {A : Option Addr} {M : List Br} (h : Ag w base g t A m c M) (hb : base ≤ w.heap.size) : Arg w g t A m c M := ⟨h.cell, h.rd.mono hb, h.len, h.lm, h.ord⟩

/-- the blocks that the walk may change -/
def Pv (g : Nat) (v : Value) (gi : Option Nat) (mb q : Nat) : Prop := q = g ∨ v.ownBlock = some q ∨ gi = some q ∨ q = mb

/-- the product in block g -/
structure PI (w : World) (base g : Nat) (P : Pr) (M : List Br) (E : Nat → Nat) (v : Value) (gi : Option Nat) (mb : Nat) : Prop where
  a0 : Ag w base g 0 P.A0 P.m0 P.c0 P.A
  a1 : Ag w base g 1 P.A1 P.m1 P.c1 P.B
  a2 : Ag w base g 2 P.A2 P.m2 P.c2 P.C
  s0 : w.cell? ⟨g, 3, none⟩ = some (.int .i64 (P.s0 : Int))
  s1 : w.cell? ⟨g, 4, none⟩ = some (.int .i64 (P.s1 : Int))
  s2 : w.cell? ⟨g, 5, none⟩ = some (.int .i64 (P.s2 : Int))
  tr : w.cell? ⟨g, 6, none⟩ = some (.int .u8 (P.T : Int))
  li : w.cell? ⟨g, 7, none⟩ = some (.int .i64 (P.lim : Int))
  tb : Tb w base g 8 M v gi
  mm : Mm w base g 10 (P.s0 * P.s1 * P.s2) mb E
  ins : Ins w 0
  b0 : 0 < base
  bs : base ≤ w.heap.size
  d1 : v.ownBlock ≠ some mb
  d2 : gi ≠ some mb
  good : Dg.Good M
  mo : Mo P.T P.s0 P.s1 P.s2 P.A P.B P.C M E
  len : M.length ≤ P.lim

theorem PI.gl {w : World} {base g : Nat} {P : Pr} {M : List Br} {E : Nat → Nat} {v : Value} {gi : Option Nat} {mb : Nat} (h : PI w base g P M E v gi mb) : g < w.heap.size := block_lt_of_cell h.s0
theorem PI.lt {w : World} {base g : Nat} {P : Pr} {M : List Br} {E : Nat → Nat} {v : Value} {gi : Option Nat} {mb q : Nat} (h : PI w base g P M E v gi mb) (hq : Pv g v gi mb q) : q < w.heap.size := by
  rcases hq with rfl | e | e | rfl
  · exact h.gl
  · exact (World.ownsRow.lt h.tb.own q e).2
  · subst e
    exact h.tb.idx.2.2.lt
  · exact h.mm.lt
theorem PI.ge {w : World} {base g : Nat} {P : Pr} {M : List Br} {E : Nat → Nat} {v : Value} {gi : Option Nat} {mb q : Nat} (h : PI w base g P M E v gi mb) (hq : Pv g v gi mb q) : base ≤ q := by
  rcases hq with rfl | e | e | rfl
  · exact h.tb.gb
  · exact (World.ownsRow.lt h.tb.own q e).1
  · subst e
    exact h.tb.idx.1
  · exact h.mm.ge

theorem Ag.keep {w w' : World} {base g t m c : Nat} {A : Option Addr} {M : List Br} (h : Ag w base g t A m c M) (hg : w'.heap[g]? = w.heap[g]?) (hk : ∀ k, k < base → w'.heap[k]? = w.heap[k]?) : Ag w' base g t A m c M :=
  ⟨(World.cell?_of_block (w := w) hg).trans h.cell, h.rd.keep hk, h.len, h.lm, h.ord⟩
theorem Ins.keep {w w' : World} {d : Nat} (h : Ins w d) (hd : w'.heap[d]? = w.heap[d]?) : Ins w' d :=
  ⟨(World.cell?_of_block (w := w) hd).trans h.c0, (World.cell?_of_block (w := w) hd).trans h.c1, (World.cell?_of_block (w := w) hd).trans h.c2⟩
theorem Tb.keepAt {w w' : World} {base g o : Nat} {M : List Br} {v : Value} {gi : Option Nat} (h : Tb w base g o M v gi) (hg : w'.heap[g]? = w.heap[g]?) (hv : ∀ k, v.ownBlock = some k → w'.heap[k]? = w.heap[k]?) (hi : ∀ k, gi = some k → w'.heap[k]? = w.heap[k]?) : Tb w' base g o M v gi := by
  have hown : w'.ownsRow base 96 3 v M.length (flat M) := by
    rcases h.own.2 with ⟨rfl, h0⟩ | ⟨g', cap, cur, rfl, h1, h2, h3, h4⟩
    · exact ⟨h.own.1, .inl ⟨rfl, h0⟩⟩
    · exact ⟨h.own.1, .inr ⟨g', cap, cur, rfl, h1, (hv g' rfl).trans h2, h3, h4⟩⟩
  refine ⟨(World.cell?_of_block (w := w) hg).trans h.cn, (World.cell?_of_block (w := w) hg).trans h.ci, (World.frozen?_of_block (w := w) hg).trans h.fn, (World.frozen?_of_block (w := w) hg).trans h.fi, hown, ?_, h.vg, h.gb⟩
  have hix := h.idx
  rcases gi with _ | b
  · exact hix
  · exact ⟨hix.1, hix.2.1, hix.2.2.keep (hi b rfl)⟩

/-- the product stays while no block of its own and none below base changes -/
theorem PI.keep {w w' : World} {base g : Nat} {P : Pr} {M : List Br} {E : Nat → Nat} {v : Value} {gi : Option Nat} {mb : Nat} (h : PI w base g P M E v gi mb) {S : Nat → Prop} (hc : Chg S w w') (hp : ∀ q, Pv g v gi mb q → ¬ S q) (hb : ∀ q, q < base → ¬ S q) : PI w' base g P M E v gi mb := by
  have hg : w'.heap[g]? = w.heap[g]? := hc.block g h.gl (hp g (.inl rfl))
  have hk : ∀ k, k < base → w'.heap[k]? = w.heap[k]? := fun k hk => hc.block k (Nat.lt_of_lt_of_le hk h.bs) (hb k hk)
  have hcell := fun j => World.cell?_of_block (w := w) (w' := w') (a := ⟨g, j, none⟩) hg
  have hv : ∀ k, v.ownBlock = some k → w'.heap[k]? = w.heap[k]? := fun k e => hc.block k (h.lt (.inr (.inl e))) (hp k (.inr (.inl e)))
  have hi : ∀ k, gi = some k → w'.heap[k]? = w.heap[k]? := fun k e => hc.block k (h.lt (.inr (.inr (.inl e)))) (hp k (.inr (.inr (.inl e))))
  exact ⟨h.a0.keep hg hk, h.a1.keep hg hk, h.a2.keep hg hk, (hcell 3).trans h.s0, (hcell 4).trans h.s1, (hcell 5).trans h.s2, (hcell 6).trans h.tr, (hcell 7).trans h.li,
    h.tb.keepAt hg hv hi, h.mm.keep hg (hc.block mb (h.lt (.inr (.inr (.inr rfl)))) (hp mb (.inr (.inr (.inr rfl))))), h.ins.keep (hk 0 h.b0), h.b0, Nat.le_trans h.bs hc.size, h.d1, h.d2, h.good, h.mo, h.len⟩
theorem PI.below {w w' : World} {base g : Nat} {P : Pr} {M : List Br} {E : Nat → Nat} {v : Value} {gi : Option Nat} {mb : Nat} (h : PI w base g P M E v gi mb) (hb : Below w.heap.size w w') : PI w' base g P M E v gi mb :=
  h.keep (Chg.of_below (S := fun _ => False) hb) (fun _ _ h => h) (fun _ _ h => h)

/-- what number leaves -/
def Out (w w' : World) (base g : Nat) (P : Pr) (i j k : Nat) (M : List Br) (v : Value) (gi : Option Nat) (mb : Nat) (e : Ending) : Prop :=
  Chg (Pv g v gi mb) w w' ∧
  (((put 64 (fx P.T P.A P.B P.C i j k) M).1.length ≤ P.lim ∧ e = .returned (.int .i64 (((put 64 (fx P.T P.A P.B P.C i j k) M).2 : Nat) : Int)) ∧
    ∃ E' v' gi' mb', PI w' base g P (put 64 (fx P.T P.A P.B P.C i j k) M).1 E' v' gi' mb' ∧ ∀ q, Pv g v' gi' mb' q → Pv g v gi mb q ∨ w.heap.size ≤ q) ∨
   (P.lim < (put 64 (fx P.T P.A P.B P.C i j k) M).1.length ∧ e = .returned (.int .i64 (-2))))

theorem fx_const {T : Nat} {A B C M : List Br} {i j k c : Nat} (hT : T ∈ tabs) (he : j = k → Den B j = Den C k) (hc : code T (cls i) (cls j) (cls k) (decide (j = k)) = c) (hc2 : c < 2) (hM : Dg.Good M) : put 64 (fx T A B C i j k) M = (M, c) := by
  have h := fx_good (A := A) (i := i) hT he
  obtain e | e : c = 0 ∨ c = 1 := by omega
  · rw [put_const (b := false) (fun c' => (h c').1 (by omega)) hM, e]; rfl
  · rw [put_const (b := true) (fun c' => (h c').2.1 (by omega)) hM, e]; rfl
theorem fx_open {T : Nat} {A B C : List Br} {i j k : Nat} (hT : T ∈ tabs) (he : j = k → Den B j = Den C k) (hc : code T (cls i) (cls j) (cls k) (decide (j = k)) = 2) :
    fx T A B C i j k = fx T A B C (zap (z0 T (cls i) (cls j) (cls k) (decide (j = k))) i) (zap (z1 T (cls i) (cls j) (cls k) (decide (j = k))) j) (zap (z2 T (cls i) (cls j) (cls k) (decide (j = k))) k) := by
  funext c
  exact (fx_good hT he c).2.2 hc
theorem zap_le (z : Bool) (i : Nat) : zap z i ≤ i := by unfold zap; split <;> omega

end Go.Proofs.YtignkplogkaigaaDoor

/-! The product's number, when the constants decide the result, and when it is remembered. -/
namespace Go.Proofs.YtignkplogkaigaaDoor
open Go.RowKit Dg St

theorem C3.alloc {w : World} {b x y z : Nat} (h : C3 w b x y z) (o : Obj) : C3 (w.alloc o) b x y z := h.below ((Below.refl _ _).alloc (Nat.le_refl _) o)
/-- three cells of a block are stored -/
theorem C3.all {w : World} {b x y z : Nat} (h : C3 w b x y z) (x' y' z' : Nat) : C3 (((w.setCell ⟨b, 0, none⟩ (.int .i64 (x' : Int))).setCell ⟨b, 1, none⟩ (.int .i64 (y' : Int))).setCell ⟨b, 2, none⟩ (.int .i64 (z' : Int))) b x' y' z' := ((h.set0 x').set1 y').set2 z'
theorem below_all {B : Nat} {a w : World} {b : Nat} (h : Below B a w) (hb : B ≤ b) (u v x : Value) : Below B a (((w.setCell ⟨b, 0, none⟩ u).setCell ⟨b, 1, none⟩ v).setCell ⟨b, 2, none⟩ x) := ((h.setCell hb u).setCell hb v).setCell hb x

/-- the cell of a tuple in Go's arithmetic, by letters -/
structure CellOf (x y z s1 s2 p q u cc : Nat) : Prop where
  h1 : x * s1 = p
  h2 : p + y = q
  h3 : q * s2 = u
  h4 : u + z = cc
theorem CellOf.ci {x y z s1 s2 p q u cc : Nat} (h : CellOf x y z s1 s2 p q u cc) : cc = ci s1 s2 x y z := by
  obtain ⟨rfl, rfl, rfl, rfl⟩ := h
  rfl
theorem CellOf.mk_ (x y z s1 s2 : Nat) : ∃ p q u cc, CellOf x y z s1 s2 p q u cc := ⟨_, _, _, _, rfl, rfl, rfl, rfl⟩
theorem CellOf.small {x y z s0 s1 s2 p q u cc : Nat} (h : CellOf x y z s1 s2 p q u cc) (hx : x < s0) (hy : y < s1) (hz : z < s2) (b0 : s0 ≤ 5000) (b1 : s1 ≤ 5000) (b2 : s2 ≤ 5000) : p ≤ 25000000 ∧ q ≤ 25005000 ∧ u ≤ 125025000000 ∧ cc ≤ 125025005000 ∧ cc < s0 * s1 * s2 := by
  have hc := ci_lt hx hy hz
  rw [← h.ci] at hc
  obtain ⟨h1, h2, h3, h4⟩ := h
  have a1 : x * s1 ≤ 5000 * 5000 := Nat.mul_le_mul (by omega) b1
  have a2 : q * s2 ≤ 25005000 * 5000 := Nat.mul_le_mul (by omega) b2
  exact ⟨by omega, by omega, by omega, by omega, hc⟩

end Go.Proofs.YtignkplogkaigaaDoor
