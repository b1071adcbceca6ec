/-
  The reference's search: a step of two states in a region that draws its order. (Seat of the great laws.)
-/
import Derived.Test.YtfkljlncnfeklaaGreatDoorXQnM
import Derived.Test.YtfkljlncnfeklaaGreatDoorPd
namespace Go.Proofs.YtfkljlncnfeklaaGreatDoor
open Go.RowKit Go.Shelf
set_option linter.unusedVariables false
set_option linter.unusedSimpArgs false
attribute [local go_sem ↓] Go.wp_at_zero Go.wp_at_succ

/-- by an invariant, from within a held walk -/
theorem wpAnyH_inv {P : Program} {ops : Array Oper} {Q : Exit → Act → World → Prop} {md : Region.Mode} {S : World → Prop} (Inv : Array Bool → Act → World → Prop) (hS : ∀ l a w, Inv l a w → S w)
    (hdone : ∀ l a w, Inv l a w → Region.ready md ops l = [] → Q .normal a w)
    (hstep : ∀ l a w, Inv l a w → ∀ i ∈ Region.ready md ops l, wpOp P ops Q i (Inv (l.setIfInBounds i true)) a w) :
    ∀ (fuel : Nat) (l : Array Bool) (a : Act) (w : World), Inv l a w → l.size = ops.size → l.count false ≤ fuel → wpAnyH P md ops Q S fuel l a w := by
  intro fuel
  induction fuel with
  | zero =>
    intro l a w h hs hc
    have hr := ready_none (md := md) (by omega) hs
    exact ⟨hr, hdone l a w h hr⟩
  | succ fuel ih =>
    intro l a w h hs hc
    refine ⟨hdone l a w h, fun i hi => wpOp_mono (fun a' w' h' => ⟨hS _ _ _ h', ih _ a' w' h' ?_ ?_⟩) (hstep l a w h i hi)⟩
    · rw [Array.size_setIfInBounds]; exact hs
    · have := count_set (mem_ready.1 hi).1
      omega
theorem wpAnyH_named {P : Program} {ops : Array Oper} {Q : Exit → Act → World → Prop} {md : Region.Mode} {S : World → Prop} {fuel : Nat} {l : Array Bool} {a : Act} {w : World} (h : ∀ a0, a0 = a → wpAnyH P md ops Q S fuel l a0 w) : wpAnyH P md ops Q S fuel l a w := h a rfl
theorem one_str' {w : World} {g b : Nat} (hb : b < 256) (h : Bx w g #[.int .u8 (b : Int)] 5) : (convert 22 9 (.slice (some ⟨g, 0, none⟩) 1 1)).run Tryz.prog w = .ok (.string ⟨[UInt8.ofNat b].toArray⟩) w := by
  have hn : (UInt8.ofNat b).toNat = b := by rw [UInt8.toNat_ofNat']; omega
  exact run_convert_bytes_back (P := Tryz.prog) w 22 9 5 ⟨g, 0, none⟩ 1 [UInt8.ofNat b] Tryz.underlying22 Tryz.underlying5 Tryz.underlying9 (fun j hj => by
    have hj' : j < 1 := hj
    obtain rfl : j = 0 := by omega
    have e2 : (⟨g, 0, none⟩ : Addr).add 0 = ⟨g, 0, none⟩ := rfl
    rw [e2, h.cell 0]
    show some (Value.int .u8 (b : Int)) = some (Value.int .u8 (((UInt8.ofNat b).toNat : Nat) : Int))
    rw [hn])
theorem below_dr {W W' : World} (h : Below W.drew.heap.size W.drew W') : Below W.heap.size W W' := ⟨h.os, h.tape, h.output, h.size, h.block⟩
structure CwD where
  g1 : Nat
  c1 : Nat
  g2 : Nat
  c2 : Nat
  h : Nat
  v : Nat
def pZ : Array Value := #[.bool false, .slice none 0 0, .bool false, .slice none 0 0, .string ⟨#[]⟩]
def pF (m m' : Nat) (x1 x2 : Stt) (T : List UInt8) (D : CwD) : Array Value := #[.bool x1.1, .slice (some ⟨D.g1, 0, none⟩) m D.c1, .bool x2.1, .slice (some ⟨D.g2, 0, none⟩) m' D.c2, .string ⟨T.toArray⟩]
/-- what has run: the two calls, the byte's slice, the variable, the store -/
structure Cw (W0 : World) (m m' : Nat) (x1 x2 : Stt) (cb : Value) (T : List UInt8) (b0 b1 b2 b6 b7 : Bool) (D : CwD) (W : World) : Prop where
  lo : Below W0.heap.size W0 W
  c0 : b1 = true → b0 = true
  c7 : b7 = true → b0 = true ∧ b1 = true
  c8 : b7 = true → b6 = true
  r1 : b0 = true → W0.heap.size ≤ D.g1 ∧ Bq W D.g1 x1.2 ∧ x1.2.length = m
  r2 : b1 = true → W0.heap.size ≤ D.g2 ∧ Bq W D.g2 x2.2 ∧ x2.2.length = m'
  hb : b2 = true → Bx W D.h #[cb] 5
  vb : b6 = true → W0.heap.size ≤ D.v ∧ Bx W D.v (if b7 then pF m m' x1 x2 T D else pZ) 81
section
variable {W0 W W' : World} {m m' : Nat} {x1 x2 : Stt} {cb : Value} {T : List UInt8} {b0 b1 b2 b6 b7 : Bool} {D : CwD}
theorem Cw.start (h : Below W0.heap.size W0 W) (D : CwD) : Cw W0 m m' x1 x2 cb T false false false false false D W :=
  ⟨h, fun e => (by cases e), fun e => (by cases e), fun e => (by cases e), fun e => (by cases e), fun e => (by cases e), fun e => (by cases e), fun e => (by cases e)⟩
theorem Cw.below (h : Cw W0 m m' x1 x2 cb T b0 b1 b2 b6 b7 D W) (hb : Below W.heap.size W W') : Cw W0 m m' x1 x2 cb T b0 b1 b2 b6 b7 D W' :=
  ⟨h.lo.trans (hb.mono h.lo.size), h.c0, h.c7, h.c8, fun e => ⟨(h.r1 e).1, (h.r1 e).2.1.below hb, (h.r1 e).2.2⟩, fun e => ⟨(h.r2 e).1, (h.r2 e).2.1.below hb, (h.r2 e).2.2⟩, fun e => (h.hb e).below hb, fun e => ⟨(h.vb e).1, (h.vb e).2.below hb⟩⟩
theorem Cw.call1 (h : Cw W0 m m' x1 x2 cb T false b1 b2 b6 b7 D W) {v : Value} (hb : Below W.heap.size W W') (hv : SvM W' W.heap.size m v x1) :
    ∃ g c, v = .agg #[.bool x1.1, .slice (some ⟨g, 0, none⟩) m c] ∧ Cw W0 m m' x1 x2 cb T true b1 b2 b6 b7 { D with g1 := g, c1 := c } W' := by
  obtain ⟨g, c, e, h1, h2, h3⟩ := hv
  have hn : b7 = true → False := fun e => by cases (h.c7 e).1
  have h' := h.below hb
  refine ⟨g, c, e, h'.lo, fun _ => rfl, fun e => (hn e).elim, h.c8, fun _ => ⟨Nat.le_trans h.lo.size h1, h2, h3⟩, h'.r2, h'.hb, fun e => ⟨(h'.vb e).1, ?_⟩⟩
  have := (h'.vb e).2
  rcases b7 with _ | _
  · exact this
  · exact (hn rfl).elim
theorem Cw.call2 (h : Cw W0 m m' x1 x2 cb T true false b2 b6 b7 D W) {v : Value} (hb : Below W.heap.size W W') (hv : SvM W' W.heap.size m' v x2) :
    ∃ g c, v = .agg #[.bool x2.1, .slice (some ⟨g, 0, none⟩) m' c] ∧ Cw W0 m m' x1 x2 cb T true true b2 b6 b7 { D with g2 := g, c2 := c } W' := by
  obtain ⟨g, c, e, h1, h2, h3⟩ := hv
  have hn : b7 = true → False := fun e => by cases (h.c7 e).2
  have h' := h.below hb
  refine ⟨g, c, e, h'.lo, fun _ => rfl, fun e => (hn e).elim, h.c8, h'.r1, fun _ => ⟨Nat.le_trans h.lo.size h1, h2, h3⟩, h'.hb, fun e => ⟨(h'.vb e).1, ?_⟩⟩
  have := (h'.vb e).2
  rcases b7 with _ | _
  · exact this
  · exact (hn rfl).elim
theorem Cw.byte (h : Cw W0 m m' x1 x2 cb T b0 b1 false b6 b7 D W) : Cw W0 m m' x1 x2 cb T b0 b1 true b6 b7 { D with h := W.heap.size } (W.alloc (.cells #[cb] 5)) := by
  have h' := h.below ((Below.refl _ _).alloc (Nat.le_refl _) (.cells #[cb] 5))
  exact ⟨h'.lo, h'.c0, h'.c7, h'.c8, h'.r1, h'.r2, fun _ => bx_new rfl _ _, h'.vb⟩
theorem Cw.var (h : Cw W0 m m' x1 x2 cb T b0 b1 b2 false false D W) : Cw W0 m m' x1 x2 cb T b0 b1 b2 true false { D with v := W.heap.size } (W.alloc (.cells #[.bool false, .slice none 0 0, .bool false, .slice none 0 0, .string ⟨#[]⟩] 81)) := by
  have h' := h.below ((Below.refl _ _).alloc (Nat.le_refl _) (.cells #[.bool false, .slice none 0 0, .bool false, .slice none 0 0, .string ⟨#[]⟩] 81))
  exact ⟨h'.lo, h'.c0, h'.c7, fun e => (by cases e), h'.r1, h'.r2, h'.hb, fun _ => ⟨h.lo.size, bx_new rfl _ _⟩⟩
theorem st5 {W : World} {g T : Nat} {a0 a1 a2 a3 a4 : Value} (h : Bx W g #[a0, a1, a2, a3, a4] T) (v0 v1 v2 v3 v4 : Value) :
    Bx (((((W.setCell ⟨g, 0, none⟩ v0).setCell ⟨g, 1, none⟩ v1).setCell ⟨g, 2, none⟩ v2).setCell ⟨g, 3, none⟩ v3).setCell ⟨g, 4, none⟩ v4) g #[v0, v1, v2, v3, v4] T ∧
    ∀ k, k ≠ g → (((((W.setCell ⟨g, 0, none⟩ v0).setCell ⟨g, 1, none⟩ v1).setCell ⟨g, 2, none⟩ v2).setCell ⟨g, 3, none⟩ v3).setCell ⟨g, 4, none⟩ v4).heap[k]? = W.heap[k]? := by
  have h1 := heap_set _ g 0 v0 h
  have h2 := heap_set _ g 1 v1 h1
  have h3 := heap_set _ g 2 v2 h2
  have h4 := heap_set _ g 3 v3 h3
  have h5 := heap_set _ g 4 v4 h4
  refine ⟨?_, fun k hk => (hp_set _ g _ _ hk).trans ((hp_set _ g _ _ hk).trans ((hp_set _ g _ _ hk).trans ((hp_set _ g _ _ hk).trans (hp_set _ g _ _ hk))))⟩
  rw [Bx, h5]
  rfl
theorem Cw.store (h : Cw W0 m m' x1 x2 cb T true true true true false D W) :
    Cw W0 m m' x1 x2 cb T true true true true true D (((((W.setCell ⟨D.v, 0, none⟩ (.bool x1.1)).setCell ⟨D.v, 1, none⟩ (.slice (some ⟨D.g1, 0, none⟩) m D.c1)).setCell ⟨D.v, 2, none⟩ (.bool x2.1)).setCell ⟨D.v, 3, none⟩ (.slice (some ⟨D.g2, 0, none⟩) m' D.c2)).setCell ⟨D.v, 4, none⟩ (.string ⟨T.toArray⟩)) := by
  obtain ⟨hv0, hv⟩ := h.vb rfl
  have hv : Bx W D.v #[.bool false, .slice none 0 0, .bool false, .slice none 0 0, .string ⟨#[]⟩] 81 := hv
  obtain ⟨s1, s2⟩ := st5 hv (.bool x1.1) (.slice (some ⟨D.g1, 0, none⟩) m D.c1) (.bool x2.1) (.slice (some ⟨D.g2, 0, none⟩) m' D.c2) (.string ⟨T.toArray⟩)
  have far : ∀ {k T' : Nat} {cs : Array Value}, Bx W k cs T' → T' ≠ 81 → Bx (((((W.setCell ⟨D.v, 0, none⟩ (.bool x1.1)).setCell ⟨D.v, 1, none⟩ (.slice (some ⟨D.g1, 0, none⟩) m D.c1)).setCell ⟨D.v, 2, none⟩ (.bool x2.1)).setCell ⟨D.v, 3, none⟩ (.slice (some ⟨D.g2, 0, none⟩) m' D.c2)).setCell ⟨D.v, 4, none⟩ (.string ⟨T.toArray⟩)) k cs T' := fun hb hT => (s2 _ (bx_ne hb hv hT)).trans hb
  refine ⟨((((h.lo.setCell (p := ⟨D.v, 0, none⟩) hv0 _).setCell (p := ⟨D.v, 1, none⟩) hv0 _).setCell (p := ⟨D.v, 2, none⟩) hv0 _).setCell (p := ⟨D.v, 3, none⟩) hv0 _).setCell (p := ⟨D.v, 4, none⟩) hv0 _, fun _ => rfl, fun _ => ⟨rfl, rfl⟩, fun _ => rfl, fun e => ⟨(h.r1 e).1, far (h.r1 e).2.1 (by decide), (h.r1 e).2.2⟩, fun e => ⟨(h.r2 e).1, far (h.r2 e).2.1 (by decide), (h.r2 e).2.2⟩, fun e => far (h.hb e) (by decide), fun _ => ⟨hv0, s1⟩⟩
theorem Cw.cells (h : Cw W0 m m' x1 x2 cb T b0 b1 b2 true false D W) : W.cell? ⟨D.v, 0, none⟩ = some (.bool false) ∧ W.cell? ⟨D.v, 1, none⟩ = some (.slice none 0 0) ∧ W.cell? ⟨D.v, 2, none⟩ = some (.bool false) ∧ W.cell? ⟨D.v, 3, none⟩ = some (.slice none 0 0) ∧ W.cell? ⟨D.v, 4, none⟩ = some (.string ⟨#[]⟩) ∧ ∀ k, W.frozen? ⟨D.v, k, none⟩ = false := by
  have hv : Bx W D.v #[.bool false, .slice none 0 0, .bool false, .slice none 0 0, .string ⟨#[]⟩] 81 := (h.vb rfl).2
  exact ⟨hv.cell 0, hv.cell 1, hv.cell 2, hv.cell 3, hv.cell 4, fun k => hv.frz k⟩
end

/-! ### The list -/
/-- the element that a step makes -/
def nxE (x1 x2 : Stt) (T : List UInt8) (D : CwD) : En := (((x1, x2), T), (D.g1, D.c1), (D.g2, D.c2))
theorem Cw.en {W0 W : World} {B m m' : Nat} {x1 x2 : Stt} {cb : Value} {T : List UInt8} {D : CwD} {b2 b6 b7 : Bool} (h : Cw W0 m m' x1 x2 cb T true true b2 b6 b7 D W) (hB : B ≤ W0.heap.size) : EnM W B m m' (nxE x1 x2 T D) := by
  obtain ⟨a1, a2, a3⟩ := h.r1 rfl
  obtain ⟨b1, b2, b3⟩ := h.r2 rfl
  exact ⟨⟨by show B ≤ D.g1; omega, a2, a3⟩, by show B ≤ D.g2; omega, b2, b3⟩
def qP (es : List En) : List Pr2 := es.map (·.1)
def qS (es : List En) : List (Stt × Stt) := es.map (·.1.1)
theorem qP_len (es : List En) : (qP es).length = es.length := List.length_map _
theorem qP_get {es : List En} {i : Nat} (h : i < es.length) {e : En} (he : es[i]'h = e) : (qP es)[i]? = some (e.1.1, e.1.2) := by
  unfold qP
  rw [List.getElem?_map, List.getElem?_eq_getElem h, he]
  rfl
theorem txq_len {π : Type} {Fs : List (List UInt8 × List π)} {n B : Nat} (h : Txs Fs n B) : ∀ (j k : Nat), k ≤ j → ∀ (t : List UInt8) (l : List π), Fs[k]? = some (t, l) → t.length ≤ k
  | 0, k, hk, t, l, ht => by
    rcases h.src k t l ht with ⟨rfl, _⟩ | ⟨m, u, l', c, h1, _⟩
    · exact Nat.zero_le _
    · omega
  | j + 1, k, hk, t, l, ht => by
    rcases h.src k t l ht with ⟨rfl, _⟩ | ⟨m, u, l', c, h1, h2, rfl, _⟩
    · exact Nat.zero_le _
    · have := txq_len h j m (by omega) u l' h2
      simp only [List.length_append, List.length_cons, List.length_nil]
      omega
theorem BfI.len {l m : List Pn} {Q : List Pr2} {n B : Nat} (h : BfI l m Q n B) {k : Nat} {x : Stt × Stt} {t : List UInt8} (hk : Q[k]? = some (x, t)) : t.length ≤ k := txq_len h.txs k k (Nat.le_refl _) t [x] (fr2_get hk)
theorem QuM.few {W : World} {B m m' g cp : Nat} {es : List En} (h : QuM W B m m' g cp es) (hd : (qS es).Nodup) (hm : m ≤ 12) (hm' : m' ≤ 12) : es.length ≤ 67108864 := by
  have h1 := pairs_len (a := m) (b := m') (qS es) hd (fun x hx => by
    obtain ⟨e, he, rfl⟩ := List.mem_map.1 hx
    exact ⟨(h.mem e he).1.2.2, (h.mem e he).2.2.2⟩)
  have h2 : (qS es).length = es.length := List.length_map _
  have h3 : 2 ^ (m + m' + 2) ≤ 2 ^ 26 := Nat.pow_le_pow_right (by decide) (by omega)
  have h4 : (2 : Nat) ^ 26 = 67108864 := by decide
  omega
theorem QuM.start {W : World} {B m m' : Nat} {e : En} (hB : B ≤ W.heap.size) (h : EnM W B m m' e) : QuM (W.alloc (.cells #[.bool e.1.1.1.1, .slice (some ⟨e.2.1.1, 0, none⟩) m e.2.1.2, .bool e.1.1.2.1, .slice (some ⟨e.2.2.1, 0, none⟩) m' e.2.2.2, .string ⟨e.1.2.toArray⟩] 81)) B m m' W.heap.size 1 [e] := by
  refine ⟨⟨rfl, .inr ⟨W.heap.size, 1, _, rfl, hB, heap_alloc_new _ _, Nat.le_refl _, by decide, rfl, rfl⟩⟩, fun x hx => ?_⟩
  obtain rfl : x = e := by simpa using hx
  exact h.below ((Below.refl _ _).alloc (Nat.le_refl _) _)

end Go.Proofs.YtfkljlncnfeklaaGreatDoor
