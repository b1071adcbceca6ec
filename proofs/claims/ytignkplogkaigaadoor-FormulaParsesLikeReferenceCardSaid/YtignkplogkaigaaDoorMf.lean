/-
  Plain mathematics and contracts of package diagram, several texts in one: DNumB, DNumC, DNumD, DComb, DLim.
-/
import Derived.Test.YtignkplogkaigaaDoorMe
import Derived.Test.YtignkplogkaigaaDoorMa
import Derived.Test.YtignkplogkaigaaDoorMc

/-! The product's number, when it recurses. (Written by dnumb.py.) -/
namespace Go.Proofs.YtignkplogkaigaaDoor
open Go.RowKit Dg St

/-- the locals behind split: the two sides in blocks K, K + 1, the branch in K + 2 -/
structure Lc (wr : World) (K L0 L1 L2 U0 U1 U2 V a b : Nat) : Prop where
  l : C3 wr K L0 L1 L2
  u : C3 wr (K + 1) U0 U1 U2
  b : C3 wr (K + 2) V a b
theorem Lc.keep {w w' : World} {K L0 L1 L2 U0 U1 U2 V a b : Nat} (h : Lc w K L0 L1 L2 U0 U1 U2 V a b) {S : Nat → Prop} (hc : Chg S w w') (hs : ∀ q, S q → q < K ∨ K + 2 < q) : Lc w' K L0 L1 L2 U0 U1 U2 V a b :=
  ⟨h.l.keep (hc.block _ h.l.lt (fun e => by have := hs _ e; omega)), h.u.keep (hc.block _ h.u.lt (fun e => by have := hs _ e; omega)), h.b.keep (hc.block _ h.b.lt (fun e => by have := hs _ e; omega))⟩
theorem Lc.set1 {w : World} {K L0 L1 L2 U0 U1 U2 V a b : Nat} (h : Lc w K L0 L1 L2 U0 U1 U2 V a b) (r : Nat) : Lc (w.setCell ⟨K + 2, 1, none⟩ (.int .i64 (r : Int))) K L0 L1 L2 U0 U1 U2 V r b :=
  ⟨h.l.other (by simp) _, h.u.other (by simp) _, h.b.set1 r⟩
theorem Lc.set2 {w : World} {K L0 L1 L2 U0 U1 U2 V a b : Nat} (h : Lc w K L0 L1 L2 U0 U1 U2 V a b) (r : Nat) : Lc (w.setCell ⟨K + 2, 2, none⟩ (.int .i64 (r : Int))) K L0 L1 L2 U0 U1 U2 V a r :=
  ⟨h.l.other (by simp) _, h.u.other (by simp) _, h.b.set2 r⟩

theorem Chg.setNew {S : Nat → Prop} {a b : World} (h : Chg S a b) {q : Nat} (hq : a.heap.size ≤ q) (n : Nat) (u : Value) : Chg S a (b.setCell ⟨q, n, none⟩ u) :=
  h.trans (T := fun k => k = q) ⟨rfl, rfl, rfl, by simp [World.setCell], fun k _ hk => Below.heap_setCell _ _ _ _ (fun e => hk e)⟩ (fun j hj e => by omega)
/-- a local block is written -/
theorem PI.setNew {w : World} {base g : Nat} {P : Pr} {M : List Br} {E : Nat → Nat} {v : Value} {gi : Option Nat} {mb : Nat} (h : PI w base g P M E v gi mb) {q : Nat} (hq : ¬ Pv g v gi mb q) (hb : base ≤ q) (n : Nat) (u : Value) : PI (w.setCell ⟨q, n, none⟩ u) base g P M E v gi mb :=
  h.keep (S := fun k => k = q) ⟨rfl, rfl, rfl, by simp [World.setCell], fun k _ hk => Below.heap_setCell _ _ _ _ (fun e => hk e)⟩ (fun k hk e => hq (e ▸ hk)) (fun k hk e => by omega)
theorem _root_.Go.Proofs.YtignkplogkaigaaDoor.St.Miss.len {T s0 s1 s2 : Nat} {A B C : List Br} {x y z V L0 L1 L2 U0 U1 U2 : Nat} {M M1 M2 : List Br} {r1 r2 : Nat} (h : Miss T s0 s1 s2 A B C x y z V L0 L1 L2 U0 U1 U2 M M1 M2 r1 r2) : M1.length ≤ M2.length ∧ M2.length ≤ (put 64 (fx T A B C x y z) M).1.length := by
  refine ⟨?_, ?_⟩
  · obtain ⟨X, e⟩ := h.p2
    rw [e, List.length_append]; omega
  · rw [h.whole]
    split
    · exact Nat.le_refl _
    · unfold ins
      split
      · exact Nat.le_refl _
      · show _ ≤ (M2 ++ [_]).length
        rw [List.length_append]; omega
theorem good_sm {M : List Br} (h : Dg.Good M) (hl : M.length ≤ 5000) : ∀ b ∈ M, Sm b := by
  intro b hb
  obtain ⟨k, hk, e⟩ := List.getElem_of_mem hb
  rw [br_at hk] at e
  subst e
  obtain ⟨h1, h2, h3, _, _⟩ := h.ord k hk
  exact ⟨by show bv M k < 1000000; omega, by show bl M k < 1000000; omega, by show bh M k < 1000000; omega⟩
/-- the memory has one result more -/
theorem PI.put {w w' : World} {base g : Nat} {P : Pr} {M : List Br} {E E' : Nat → Nat} {v : Value} {gi : Option Nat} {mb b' : Nat} (h : PI w base g P M E v gi mb) (hm : Mm w' base g 10 (P.s0 * P.s1 * P.s2) b' E') (hb : b' = mb ∨ w.heap.size ≤ b') (hc : Chg (fun k => k = mb ∨ k = g) w w')
    (hk : ∀ i, i < 10 → w'.cell? ⟨g, i, none⟩ = w.cell? ⟨g, i, none⟩ ∧ w'.frozen? ⟨g, i, none⟩ = w.frozen? ⟨g, i, none⟩) (hmo : Mo P.T P.s0 P.s1 P.s2 P.A P.B P.C M E') : PI w' base g P M E' v gi b' := by
  have hbase : ∀ k, k < base → w'.heap[k]? = w.heap[k]? := fun k hk => hc.block k (Nat.lt_of_lt_of_le hk h.bs) (fun e => by
    rcases e with e | e
    · have := h.ge (q := k) (.inr (.inr (.inr e))); omega
    · have := h.ge (q := k) (.inl e); omega)
  have hv : ∀ k, v.ownBlock = some k → w'.heap[k]? = w.heap[k]? := fun k e => hc.block k (h.lt (.inr (.inl e))) (fun e2 => by
    rcases e2 with e2 | e2
    · exact h.d1 (by rw [e, e2])
    · exact h.tb.vg (by rw [e, e2]))
  have hi : ∀ k, gi = some k → w'.heap[k]? = w.heap[k]? := fun k e => hc.block k (h.lt (.inr (.inr (.inl e)))) (fun e2 => by
    rcases e2 with e2 | e2
    · exact h.d2 (by rw [e, e2])
    · subst e; exact h.tb.idx.2.1 e2)
  have hown : w'.ownsRow base 96 3 v M.length (flat M) := by
    rcases h.tb.own.2 with ⟨rfl, h0⟩ | ⟨g', cap, cur, rfl, h1, h2, h3, h4⟩
    · exact ⟨h.tb.own.1, .inl ⟨rfl, h0⟩⟩
    · exact ⟨h.tb.own.1, .inr ⟨g', cap, cur, rfl, h1, (hv g' rfl).trans h2, h3, h4⟩⟩
  have htb : Tb w' base g 8 M v gi := by
    refine ⟨(hk 8 (by omega)).1.trans h.tb.cn, (hk 9 (by omega)).1.trans h.tb.ci, (hk 8 (by omega)).2.trans h.tb.fn, (hk 9 (by omega)).2.trans h.tb.fi, hown, ?_, h.tb.vg, h.tb.gb⟩
    have hix := h.tb.idx
    rcases gi with _ | b
    · exact hix
    · exact ⟨hix.1, hix.2.1, hix.2.2.keep (hi b rfl)⟩
  have ag : ∀ t A m c N, t < 10 → Ag w base g t A m c N → Ag w' base g t A m c N := fun t A m c N ht ha => ⟨(hk t ht).1.trans ha.cell, ha.rd.keep hbase, ha.len, ha.lm, ha.ord⟩
  exact ⟨ag 0 _ _ _ _ (by omega) h.a0, ag 1 _ _ _ _ (by omega) h.a1, ag 2 _ _ _ _ (by omega) h.a2, (hk 3 (by omega)).1.trans h.s0, (hk 4 (by omega)).1.trans h.s1, (hk 5 (by omega)).1.trans h.s2, (hk 6 (by omega)).1.trans h.tr, (hk 7 (by omega)).1.trans h.li, htb, hm, h.ins.keep (hbase 0 h.b0), h.b0, Nat.le_trans h.bs hc.size,
    fun e => by
      rcases hb with hb | hb
      · exact h.d1 (by rw [e, hb])
      · have := h.lt (.inr (.inl e)); omega,
    fun e => by
      rcases hb with hb | hb
      · exact h.d2 (by rw [e, hb])
      · have := h.lt (.inr (.inr (.inl e))); omega,
    h.good, hmo, h.len⟩
/-- the table has one branch more -/
theorem PI.num {w w' : World} {base g : Nat} {P : Pr} {M M3 : List Br} {E : Nat → Nat} {v : Value} {gi : Option Nat} {mb : Nat} (h : PI w base g P M E v gi mb) (hn : Numd w w' base g 8 v gi M3) (hpre : ∃ X, M3 = M ++ X) (hg : Dg.Good M3) (hl : M3.length ≤ P.lim) :
    ∃ v' gi', PI w' base g P M3 E v' gi' mb ∧ ∀ q, Pv g v' gi' mb q → Pv g v gi mb q ∨ w.heap.size ≤ q := by
  obtain ⟨v', gi', htb, hc, hcell, hfr, hv', hg'⟩ := hn
  have hcl := fun j (h1 : j ≠ 8) (h2 : j ≠ 9) => hcell j h1 h2
  have hbase : ∀ k, k < base → w'.heap[k]? = w.heap[k]? := fun k hk => hc.block k (Nat.lt_of_lt_of_le hk h.bs) (fun e => by
    rcases e with e | e | e
    · have := h.ge (q := k) (.inl e); omega
    · have := h.ge (q := k) (.inr (.inl e)); omega
    · have := h.ge (q := k) (.inr (.inr (.inl e))); omega)
  have hmb : w'.heap[mb]? = w.heap[mb]? := hc.block mb (h.lt (.inr (.inr (.inr rfl)))) (fun e => by
    rcases e with e | e | e
    · exact h.mm.ne e
    · exact h.d1 e
    · exact h.d2 e)
  have hmm : Mm w' base g 10 (P.s0 * P.s1 * P.s2) mb E := by
    exact h.mm.keepC (hcl 10 (by omega) (by omega)) (hcl 11 (by omega) (by omega)) (hcl 12 (by omega) (by omega)) (hfr 11) (hfr 12) hmb
  have ag : ∀ t A m c N, t < 8 → Ag w base g t A m c N → Ag w' base g t A m c N := fun t A m c N ht ha => ⟨(hcl t (by omega) (by omega)).trans ha.cell, ha.rd.keep hbase, ha.len, ha.lm, ha.ord⟩
  have hmbl := h.lt (.inr (.inr (.inr rfl)))
  obtain ⟨X, hX⟩ := hpre
  refine ⟨v', gi', ⟨ag 0 _ _ _ _ (by omega) h.a0, ag 1 _ _ _ _ (by omega) h.a1, ag 2 _ _ _ _ (by omega) h.a2, (hcl 3 (by omega) (by omega)).trans h.s0, (hcl 4 (by omega) (by omega)).trans h.s1, (hcl 5 (by omega) (by omega)).trans h.s2, (hcl 6 (by omega) (by omega)).trans h.tr, (hcl 7 (by omega) (by omega)).trans h.li, htb, hmm, h.ins.keep (hbase 0 h.b0), h.b0, Nat.le_trans h.bs hc.size,
    fun e => by
      rcases hv' mb e with e2 | e2
      · exact h.d1 e2
      · omega,
    fun e => by
      rcases hg' mb e with e2 | e2
      · exact h.d2 e2
      · omega,
    hg, by rw [hX]; exact h.mo.grow h.good.ord, hl⟩, fun q hq => ?_⟩
  rcases hq with e | e | e | e
  · exact .inl (.inl e)
  · rcases hv' q e with e2 | e2
    · exact .inl (.inr (.inl e2))
    · exact .inr e2
  · rcases hg' q e with e2 | e2
    · exact .inl (.inr (.inr (.inl e2)))
    · exact .inr e2
  · exact .inl (.inr (.inr (.inr e)))


end Go.Proofs.YtignkplogkaigaaDoor

/-! The product's number, when both sides are made. (Written by dnumb.py.) -/
namespace Go.Proofs.YtignkplogkaigaaDoor
open Go.RowKit Dg St

end Go.Proofs.YtignkplogkaigaaDoor

/-! The product's number, whatever the tuple is. -/
namespace Go.Proofs.YtignkplogkaigaaDoor
open Go.RowKit Dg St

theorem code_three (T a b c : Nat) (e : Bool) : code T a b c e < 2 ∨ code T a b c e = 2 := by
  unfold code
  split
  · exact .inl (by omega)
  · split
    · exact .inl (by omega)
    · exact .inr rfl

end Go.Proofs.YtignkplogkaigaaDoor

/-! combine: an operation of one, two or three diagrams. (Written by dcomb.py.) -/
namespace Go.Proofs.YtignkplogkaigaaDoor
open Go.RowKit Dg St

theorem wrap64_of {n m : Int} (h : IntKind.i64.wrap n = m) : wrap64 n = m := by
  rw [← h, IntKind.wrap_i64]
  first | rfl | (unfold wrap64; rfl) | (simp [wrap64]; done)

/-- the arguments of combine: slice, branches and root of each; nothing behind the last one -/
structure Ca where
  A : Nat → Option Addr
  m : Nat → Nat
  c : Nat → Nat
  r : Nat → Nat
  N : Nat → List Br
structure Ca.Ok (D : Ca) (n : Nat) (w : World) : Prop where
  rd : ∀ t, t < n → Rd w w.heap.size (D.A t) (up (D.N t))
  ln : ∀ t, (D.N t).length = D.m t
  lm : ∀ t, D.m t ≤ 4096
  ord : ∀ t, Ord (D.N t)
  rt : ∀ t, D.r t < D.m t + 2
  no : ∀ t, n ≤ t → D.A t = none ∧ D.m t = 0 ∧ D.c t = 0 ∧ D.r t = 0
/-- how many cells the memory has behind k rounds -/
def Ca.pr (D : Ca) : Nat → Nat
  | 0 => 1
  | k + 1 => D.pr k * (D.r k + 1)
/-- the product's cells behind k rounds -/
def Ca.cell (D : Ca) (T lim k : Nat) : Nat → Value
  | 0 => if 0 < k then .slice (D.A 0) (D.m 0) (D.c 0) else .slice none 0 0
  | 1 => if 1 < k then .slice (D.A 1) (D.m 1) (D.c 1) else .slice none 0 0
  | 2 => if 2 < k then .slice (D.A 2) (D.m 2) (D.c 2) else .slice none 0 0
  | 3 => if 0 < k then .int .i64 ((D.r 0 : Int) + 1) else .int .i64 1
  | 4 => if 1 < k then .int .i64 ((D.r 1 : Int) + 1) else .int .i64 1
  | 5 => if 2 < k then .int .i64 ((D.r 2 : Int) + 1) else .int .i64 1
  | 6 => .int .u8 (T : Int)
  | 7 => .int .i64 (lim : Int)
  | 8 => .slice none 0 0
  | 9 => .map none
  | 10 => .int .i64 0
  | 11 => .map none
  | _ => .slice none 0 0
/-- the root tuple's cells -/
def Ca.tup (D : Ca) (k : Nat) : Nat → Value
  | 0 => if 0 < k then .int .i64 (D.r 0 : Int) else .int .i64 0
  | 1 => if 1 < k then .int .i64 (D.r 1 : Int) else .int .i64 0
  | _ => if 2 < k then .int .i64 (D.r 2 : Int) else .int .i64 0
def zc : Nat → Value
  | 0 => .slice none 0 0
  | _ => .int .i64 0
/-- the state behind k rounds -/
structure Cs (w wr : World) (H : Nat) (D : Ca) (T lim k : Nat) : Prop where
  hH : w.heap.size = H
  sz : H + 2 < wr.heap.size
  bel : Below H w wr
  res : Blk wr H 2 zc
  pro : Blk wr (H + 1) 13 (D.cell T lim k)
  tup : Blk wr (H + 2) 3 (D.tup k)
theorem cell_step (D : Ca) (T lim k : Nat) (hk : k < 3) : ∀ i, i < 13 → fup (fup (D.cell T lim k) k (.slice (D.A k) (D.m k) (D.c k))) (3 + k) (.int .i64 ((D.r k : Int) + 1)) i = D.cell T lim (k + 1) i := by
  intro i hi
  obtain rfl | rfl | rfl : k = 0 ∨ k = 1 ∨ k = 2 := by omega
  all_goals
    obtain rfl | rfl | rfl | rfl | rfl | rfl | rfl | rfl | rfl | rfl | rfl | rfl | rfl : i = 0 ∨ i = 1 ∨ i = 2 ∨ i = 3 ∨ i = 4 ∨ i = 5 ∨ i = 6 ∨ i = 7 ∨ i = 8 ∨ i = 9 ∨ i = 10 ∨ i = 11 ∨ i = 12 := by omega
    all_goals rfl
theorem tup_step (D : Ca) (k : Nat) (hk : k < 3) : ∀ i, i < 3 → fup (D.tup k) k (.int .i64 (D.r k : Int)) i = D.tup (k + 1) i := by
  intro i hi
  obtain rfl | rfl | rfl : k = 0 ∨ k = 1 ∨ k = 2 := by omega
  all_goals
    obtain rfl | rfl | rfl : i = 0 ∨ i = 1 ∨ i = 2 := by omega
    all_goals rfl
theorem Cs.step {w wr : World} {H : Nat} {D : Ca} {T lim k : Nat} (h : Cs w wr H D T lim k) (hk : k < 3) (o : Obj) :
    Cs w ((((wr.setCell ⟨H + 1, k, none⟩ (.slice (D.A k) (D.m k) (D.c k))).setCell ⟨H + 2, k, none⟩ (.int .i64 (D.r k : Int))).setCell ⟨H + 1, 3 + k, none⟩ (.int .i64 ((D.r k : Int) + 1))).alloc o) H D T lim (k + 1) := by
  have hs : H + 2 < (((wr.setCell ⟨H + 1, k, none⟩ (.slice (D.A k) (D.m k) (D.c k))).setCell ⟨H + 2, k, none⟩ (.int .i64 (D.r k : Int))).setCell ⟨H + 1, 3 + k, none⟩ (.int .i64 ((D.r k : Int) + 1))).heap.size := by
    have := h.sz
    simpa [World.setCell] using this
  have b0 : Below H w (((wr.setCell ⟨H + 1, k, none⟩ (.slice (D.A k) (D.m k) (D.c k))).setCell ⟨H + 2, k, none⟩ (.int .i64 (D.r k : Int))).setCell ⟨H + 1, 3 + k, none⟩ (.int .i64 ((D.r k : Int) + 1))) := ((h.bel.setCell (by simp) _).setCell (by simp) _).setCell (by simp) _
  refine ⟨h.hH, Nat.lt_of_lt_of_le hs ((Below.refl _ _).alloc (Nat.le_refl _) o).size, b0.alloc (by omega) o, ?_, ?_, ?_⟩
  · exact (((h.res.other (by simp) _).other (by simp) _).other (by simp) _).alloc (by omega) o
  · exact ((((h.pro.set (i := k) (by omega) _).other (by simp) _).set (i := 3 + k) (by omega) _).congr (cell_step D T lim k hk)).alloc (by omega) o
  · exact ((((h.tup.other (by simp) _).set (i := k) (by omega) _).other (by simp) _).congr (tup_step D k hk)).alloc (by omega) o

theorem Cs.below {w wr w' : World} {H : Nat} {D : Ca} {T lim k : Nat} (h : Cs w wr H D T lim k) (hb : Below wr.heap.size wr w') : Cs w w' H D T lim k :=
  ⟨h.hH, Nat.lt_of_lt_of_le h.sz hb.size, h.bel.trans (hb.mono (by have := h.sz; omega)), h.res.below (by omega) hb, h.pro.below (by omega) hb, h.tup.below (by omega) hb⟩
theorem Ca.Ok.pr_fin {D : Ca} {n : Nat} {w : World} (h : D.Ok n w) (hn : n ≤ 3) : D.pr n = D.pr 3 := by
  have z := fun t ht => (h.no t ht).2.2.2
  obtain rfl | rfl | rfl | rfl : n = 0 ∨ n = 1 ∨ n = 2 ∨ n = 3 := by omega
  · show _ = D.pr 0 * (D.r 0 + 1) * (D.r 1 + 1) * (D.r 2 + 1)
    rw [z 0 (by omega), z 1 (by omega), z 2 (by omega)]; simp
  · show _ = D.pr 1 * (D.r 1 + 1) * (D.r 2 + 1)
    rw [z 1 (by omega), z 2 (by omega)]; simp
  · show _ = D.pr 2 * (D.r 2 + 1)
    rw [z 2 (by omega)]; simp
  · rfl
theorem Cs.fin {w wr : World} {H : Nat} {D : Ca} {T lim n : Nat} (h : Cs w wr H D T lim n) (hD : D.Ok n w) (hn : n ≤ 3) : Cs w wr H D T lim 3 := by
  have z0 := hD.no 0
  have z1 := hD.no 1
  have z2 := hD.no 2
  refine ⟨h.hH, h.sz, h.bel, h.res, h.pro.congr (fun i hi => ?_), h.tup.congr (fun i hi => ?_)⟩
  · obtain rfl | rfl | rfl | rfl : n = 0 ∨ n = 1 ∨ n = 2 ∨ n = 3 := by omega
    all_goals
      obtain rfl | rfl | rfl | rfl | rfl | rfl | rfl | rfl | rfl | rfl | rfl | rfl | rfl : i = 0 ∨ i = 1 ∨ i = 2 ∨ i = 3 ∨ i = 4 ∨ i = 5 ∨ i = 6 ∨ i = 7 ∨ i = 8 ∨ i = 9 ∨ i = 10 ∨ i = 11 ∨ i = 12 := by omega
      all_goals first | rfl | (simp [Ca.cell]; done) | (simp [Ca.cell, z0, z1, z2])
  · obtain rfl | rfl | rfl | rfl : n = 0 ∨ n = 1 ∨ n = 2 ∨ n = 3 := by omega
    all_goals
      obtain rfl | rfl | rfl : i = 0 ∨ i = 1 ∨ i = 2 := by omega
      all_goals first | rfl | (simp [Ca.tup]; done) | (simp [Ca.tup, z0, z1, z2])

/-- the product that the arguments make -/
def Ca.prod (D : Ca) (T lim : Nat) : Pr := ⟨D.A 0, D.A 1, D.A 2, D.m 0, D.m 1, D.m 2, D.c 0, D.c 1, D.c 2, D.N 0, D.N 1, D.N 2, D.r 0 + 1, D.r 1 + 1, D.r 2 + 1, T, lim⟩
theorem pr_three (D : Ca) : D.pr 3 = (D.r 0 + 1) * (D.r 1 + 1) * (D.r 2 + 1) := by
  show 1 * (D.r 0 + 1) * (D.r 1 + 1) * (D.r 2 + 1) = _
  rw [Nat.one_mul]
/-- the new memory, in either form (kept from simp) -/
def NMem (w' : World) (n L : Nat) (mv lv : Value) : Prop := (mv = .map none ∧ lv = .slice (some ⟨L, 0, none⟩) n n ∧ Ck w' L (List.replicate n 0)) ∨ (mv = .map (some L) ∧ lv = .slice none 0 0 ∧ w'.ownsMap Tryd.prog 3 (plainElem (H := Unit) Tryd.prog 21) L 0 (.map []))
theorem pi_init {w w4 : World} {H L T lim n : Nat} {D : Ca} {mv lv : Value} (h : Cs w w4 H D T lim 3) (hD : D.Ok n w)
    (hnm : NMem w4 (D.pr 3) L mv lv) (hpr : D.pr 3 ≤ 1000000000000) (hL : H + 2 < L) (hin : Ins w 0) :
    PI (((w4.setCell ⟨H + 1, 10, none⟩ (.int .i64 ((D.pr 3 : Nat) : Int))).setCell ⟨H + 1, 11, none⟩ mv).setCell ⟨H + 1, 12, none⟩ lv) H (H + 1) (D.prod T lim) [] (fun _ => 0) (.slice none 0 0) none L := by
  have hblk := ((h.pro.set (i := 10) (by omega) (.int .i64 ((D.pr 3 : Nat) : Int))).set (i := 11) (by omega) mv).set (i := 12) (by omega) lv
  have hbel : Below H w (((w4.setCell ⟨H + 1, 10, none⟩ (.int .i64 ((D.pr 3 : Nat) : Int))).setCell ⟨H + 1, 11, none⟩ mv).setCell ⟨H + 1, 12, none⟩ lv) := ((h.bel.setCell (by simp) _).setCell (by simp) _).setCell (by simp) _
  have hkL : (((w4.setCell ⟨H + 1, 10, none⟩ (.int .i64 ((D.pr 3 : Nat) : Int))).setCell ⟨H + 1, 11, none⟩ mv).setCell ⟨H + 1, 12, none⟩ lv).heap[L]? = w4.heap[L]? := by
    rw [Below.heap_setCell _ _ _ _ (by simp; omega), Below.heap_setCell _ _ _ _ (by simp; omega), Below.heap_setCell _ _ _ _ (by simp; omega)]
  have hsz : H + 2 < (((w4.setCell ⟨H + 1, 10, none⟩ (.int .i64 ((D.pr 3 : Nat) : Int))).setCell ⟨H + 1, 11, none⟩ mv).setCell ⟨H + 1, 12, none⟩ lv).heap.size := by
    have := h.sz
    simpa [World.setCell] using this
  generalize ((w4.setCell ⟨H + 1, 10, none⟩ (.int .i64 ((D.pr 3 : Nat) : Int))).setCell ⟨H + 1, 11, none⟩ mv).setCell ⟨H + 1, 12, none⟩ lv = W at *
  have hH := h.hH
  have rd : ∀ t, Rd W H (D.A t) (up (D.N t)) := fun t => by
    by_cases ht : t < n
    · have := hD.rd t ht
      rw [hH] at this
      exact this.below hbel
    · have h0 := (hD.no t (by omega)).2.1
      have h1 := hD.ln t
      rw [h0] at h1
      rw [List.eq_nil_of_length_eq_zero h1]
      exact Rd.nil
  have hins : Ins W 0 := by
    have := hin.below (w' := W) (by rw [hH]; exact hbel)
    exact this
  have h0H : 0 < H := by rw [← hH]; exact block_lt_of_cell hin.c0
  have c := fun i hi => (hblk i hi).1
  have hmm : Mm W H (H + 1) 10 (D.pr 3) L (fun _ => 0) := by
    refine ⟨hpr, ?_⟩
    rcases hnm with ⟨e1, e2, hck⟩ | ⟨e1, e2, es, clock, hh, hr⟩
    · have k10 : W.cell? ⟨H + 1, 10, none⟩ = some (.int .i64 ((D.pr 3 : Nat) : Int)) := c 10 (by omega)
      have k12 : W.cell? ⟨H + 1, 12, none⟩ = some lv := c 12 (by omega)
      rw [e2] at k12
      refine .inl ⟨List.replicate (D.pr 3) 0, ⟨k10, k12, hkL.trans hck, by rw [List.length_replicate], fun e he => by rw [(List.mem_replicate.1 he).2]; omega, by omega, by omega⟩, fun j _ => ?_⟩
      rw [List.getD_eq_getElem?_getD, List.getElem?_replicate]
      split <;> rfl
    · have k10 : W.cell? ⟨H + 1, 10, none⟩ = some (.int .i64 ((D.pr 3 : Nat) : Int)) := c 10 (by omega)
      have k11 : W.cell? ⟨H + 1, 11, none⟩ = some mv := c 11 (by omega)
      have k12 : W.cell? ⟨H + 1, 12, none⟩ = some lv := c 12 (by omega)
      rw [e1] at k11
      rw [e2] at k12
      refine .inr ⟨.map [], ⟨k10, k11, k12, (hblk 11 (by omega)).2, (hblk 12 (by omega)).2, ⟨es, clock, hkL.trans hh, hr⟩, ⟨fun j _ => ?_, fun j _ hne => absurd rfl hne, fun kl hk => ?_, fun j _ => by omega⟩, by omega, by omega⟩⟩
      · simp [Maps.has_eq]
      · simp [Maps.has_eq] at hk
  exact { a0 := ⟨c 0 (by omega), rd 0, hD.ln 0, by have := hD.lm 0; show D.m 0 ≤ _; omega, hD.ord 0⟩
          a1 := ⟨c 1 (by omega), rd 1, hD.ln 1, by have := hD.lm 1; show D.m 1 ≤ _; omega, hD.ord 1⟩
          a2 := ⟨c 2 (by omega), rd 2, hD.ln 2, by have := hD.lm 2; show D.m 2 ≤ _; omega, hD.ord 2⟩
          s0 := c 3 (by omega), s1 := c 4 (by omega), s2 := c 5 (by omega), tr := c 6 (by omega), li := c 7 (by omega)
          tb := ⟨c 8 (by omega), c 9 (by omega), (hblk 8 (by omega)).2, (hblk 9 (by omega)).2, ⟨rfl, .inl ⟨rfl, rfl⟩⟩, by simp, by simp [Value.ownBlock], by omega⟩
          mm := by rw [show (D.prod T lim).s0 * (D.prod T lim).s1 * (D.prod T lim).s2 = D.pr 3 from (pr_three D).symm]; exact hmm
          ins := hins, b0 := h0H, bs := by omega, d1 := by simp [Value.ownBlock], d2 := by simp, good := good_nil, mo := fun i j k _ _ _ hne => absurd rfl hne, len := Nat.zero_le _ }
theorem Ca.Ok.prod {D : Ca} {n T lim : Nat} {w : World} (hD : D.Ok n w) (hT : T ∈ tabs) (hl : lim ≤ 4096) (hsame : ∀ x, x < D.r 1 + 1 → x < D.r 2 + 1 → Den (D.N 1) x = Den (D.N 2) x) : (D.prod T lim).Ok :=
  ⟨hT, hsame, by have := hD.rt 0; show D.r 0 + 1 ≤ D.m 0 + 2; omega, by have := hD.rt 1; show D.r 1 + 1 ≤ D.m 1 + 2; omega, by have := hD.rt 2; show D.r 2 + 1 ≤ D.m 2 + 2; omega,
   by have := hD.rt 0; have := hD.lm 0; show D.r 0 + 1 ≤ 5000; omega, by have := hD.rt 1; have := hD.lm 1; show D.r 1 + 1 ≤ 5000; omega, by have := hD.rt 2; have := hD.lm 2; show D.r 2 + 1 ≤ 5000; omega, hl⟩
/-- the slice lies in no block below B -/
def Fr (A : Option Addr) (B : Nat) : Prop := ∀ b o, A = some ⟨b, o, none⟩ → B ≤ b
theorem Fr.mono {A : Option Addr} {B B' : Nat} (h : Fr A B) (hb : B' ≤ B) : Fr A B' := fun b o e => Nat.le_trans hb (h b o e)
theorem Rd.keepA {w w' : World} {B : Nat} {A : Option Addr} {l : List Bi} (h : Rd w B A l) (hk : ∀ b o, A = some ⟨b, o, none⟩ → w'.heap[b]? = w.heap[b]?) : Rd w' B A l := fun h0 => by
  obtain ⟨b, o, e, hb, hc⟩ := h h0
  refine ⟨b, o, e, hb, fun j hj => ?_⟩
  obtain ⟨h1, h2, h3⟩ := hc j hj
  have hk' := hk b o e
  exact ⟨(World.cell?_of_block (w := w) hk').trans h1, (World.cell?_of_block (w := w) hk').trans h2, (World.cell?_of_block (w := w) hk').trans h3⟩
theorem Rd.setF {w : World} {B H n : Nat} {A : Option Addr} {l : List Bi} (h : Rd w B A l) (hf : Fr A (H + 1)) (v : Value) : Rd (w.setCell ⟨H, n, none⟩ v) B A l :=
  h.keepA (fun b o e => Below.heap_setCell _ _ _ _ (by have := hf b o e; show b ≠ H; omega))
/-- what combine answers -/
def CombOk (w w' : World) (M : List Br) (r : Nat) (e : Ending) : Prop := (∃ A c, e = .returned (.tuple #[.agg #[.slice A M.length c, .int .i64 (r : Int)], .bool true]) ∧ M.length ≤ c ∧ Rd w' w'.heap.size A (up M) ∧ Fr A w.heap.size) ∧ Below w.heap.size w w'

end Go.Proofs.YtignkplogkaigaaDoor

/-! limited and checked: an operation of valid diagrams within the limit. -/
namespace Go.Proofs.YtignkplogkaigaaDoor
open Go.RowKit Dg St

theorem Ca.Ok.below {D : Ca} {n : Nat} {w w' : World} (h : D.Ok n w) (hb : Below w.heap.size w w') : D.Ok n w' := ⟨fun t ht => ((h.rd t ht).below hb).mono hb.size, h.ln, h.lm, h.ord, h.rt, h.no⟩
/-- the arguments lie in block b -/
def CArgs (w : World) (b n : Nat) (D : Ca) : Prop := ∀ t, t < n → w.cell? ⟨b, 2 * t, none⟩ = some (.slice (D.A t) (D.m t) (D.c t)) ∧ w.cell? ⟨b, 2 * t + 1, none⟩ = some (.int .i64 (D.r t : Int))
theorem CArgs.below {w w' : World} {b n : Nat} {D : Ca} (h : CArgs w b n D) (hb : b < w.heap.size) (hbl : Below w.heap.size w w') : CArgs w' b n D := fun t ht =>
  ⟨(hbl.cell (p := ⟨b, 2 * t, none⟩) hb).trans (h t ht).1, (hbl.cell (p := ⟨b, 2 * t + 1, none⟩) hb).trans (h t ht).2⟩
/-- what an operation answers: a made diagram and no error -/
def OpOk (w w' : World) (M : List Br) (r : Nat) (e : Ending) : Prop := (∃ A c, e = .returned (.tuple #[.agg #[.slice A M.length c, .int .i64 (r : Int)], .int .i64 0]) ∧ M.length ≤ c ∧ Rd w' w'.heap.size A (up M) ∧ Fr A w.heap.size) ∧ Below w.heap.size w w'
/-- a result's cell in block H is written -/
theorem fin_res {w w2 : World} {H n c : Nat} {A : Option Addr} {M : List Br} {r : Int} (hH : w.heap.size = H) (hb : Below H w w2) (hr : Rd w2 w2.heap.size A (up M)) (hf : Fr A (H + 1)) :
    Below w.heap.size w ((w2.setCell ⟨H, 0, none⟩ (.slice A n c)).setCell ⟨H, 1, none⟩ (.int .i64 r)) ∧ Rd ((w2.setCell ⟨H, 0, none⟩ (.slice A n c)).setCell ⟨H, 1, none⟩ (.int .i64 r)) ((w2.setCell ⟨H, 0, none⟩ (.slice A n c)).setCell ⟨H, 1, none⟩ (.int .i64 r)).heap.size A (up M) := by
  subst hH
  refine ⟨(hb.setCell (by simp) _).setCell (by simp) _, ?_⟩
  have h1 := (hr.setF (n := 0) hf (.slice A n c)).setF (n := 1) hf (.int .i64 r)
  simpa [World.setCell] using h1

end Go.Proofs.YtignkplogkaigaaDoor
