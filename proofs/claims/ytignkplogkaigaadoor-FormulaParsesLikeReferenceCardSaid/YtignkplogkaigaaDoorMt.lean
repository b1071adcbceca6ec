/-
  Plain mathematics and contracts of package diagram, several texts in one: DLoad, DSha, DCho.
-/
import Derived.Test.YtignkplogkaigaaDoorMp
import Derived.Test.YtignkplogkaigaaDoorMe
import Derived.Test.YtignkplogkaigaaDoorMc
import Derived.Test.YtignkplogkaigaaDoorMh
import Derived.Deep.RegionHeld3
import Derived.Deep.DeepCutAuto

/-! A valid diagram is loaded into a table; two of them share one. -/
namespace Go.Proofs.YtignkplogkaigaaDoor
open Go.RowKit Dg St Go.Maps

theorem Tryd.infoLd : (Tryd.prog.info? 3).map (fun i => (i.zero, i.size, i.bytes)) = some (some (.int .i64 0), 1, 8) := by kernel_rfl
theorem ld_cells (n : Nat) : madeCells #[Value.int .i64 0] n = (List.replicate n (Value.int .i64 0)).toArray := by
  apply Array.ext'
  rw [toList_madeCells_one]
theorem ld_nil (w : World) (base e size : Nat) : w.ownsRow base e size (.slice none 0 0) 0 [] := ⟨by simp, .inl ⟨rfl, rfl⟩⟩
theorem ld_ab (w : World) (o : Obj) : Below w.heap.size w (w.alloc o) := (Below.refl _ _).alloc (Nat.le_refl _) o
theorem ld_lid {p : Prop} (h : p) : Hid p := Lib.hid h
theorem results_cell_cell {fn : Func} {p q : Tmp} {ty tz : TypeId} (h : fn.results = #[.cell p ty, .cell q tz]) (tmps : Array Value) (P : Program) (w : World) :
    (results fn tmps).run P w =
      ((asAddr (tmps.getD p undef)).run P w).andThen fun a w₁ => ((loadVar ty a).run P w₁).andThen fun v w₂ => ((asAddr (tmps.getD q undef)).run P w₂).andThen fun b w₃ => ((loadVar tz b).run P w₃).andThen fun u w₄ => .ok (.tuple #[v, u]) w₄ := by
  simp only [results, h]
  simp [Sem.run_bind, Result.andThen]

/-- the blocks of a table -/
def Sv (g : Nat) (v : Value) (gi : Option Nat) (k : Nat) : Prop := k = g ∨ v.ownBlock = some k ∨ gi = some k
theorem Tb.gl {w : World} {base g o : Nat} {M : List Br} {v : Value} {gi : Option Nat} (h : Tb w base g o M v gi) {k : Nat} (hk : Sv g v gi k) : base ≤ k ∧ k < w.heap.size := by
  rcases hk with e | e | e
  · subst e; exact ⟨h.gb, block_lt_of_cell h.cn⟩
  · exact World.ownsRow.lt h.own k e
  · subst e
    have hi := h.idx
    exact ⟨hi.1, hi.2.2.lt⟩
theorem ncells_at (n : Nat) : ∀ i, i < n → (List.replicate n (Value.int .i64 0)).getD i undef = .int .i64 0 := fun i hi => by
  simp only [List.getD_eq_getElem?_getD, List.getElem?_replicate, hi, if_true, Option.getD_some]

/-- the state of load behind k branches -/
structure Lo (w wr : World) (base g H m k : Nat) (A : Option Addr) (c r : Nat) (v : Value) (gi : Option Nat) (M N N' : List Br) (num : Nat → Nat) (v' : Value) (gi' : Option Nat) : Prop where
  hH : w.heap.size = H
  chg : Chg (Sv g v gi) w wr
  tb : Tb wr base g 0 N' v' gi'
  oth : ∀ j, j ≠ 0 → j ≠ 1 → wr.cell? ⟨g, j, none⟩ = w.cell? ⟨g, j, none⟩
  fro : ∀ j, wr.frozen? ⟨g, j, none⟩ = w.frozen? ⟨g, j, none⟩
  vo : ∀ k, v'.ownBlock = some k → v.ownBlock = some k ∨ H + 2 ≤ k
  io : ∀ k, gi' = some k → gi = some k ∨ H + 2 ≤ k
  x : Blk wr H 2 (fun i => [Value.slice A m c, .int .i64 (r : Int)].getD i undef)
  row : Blk wr (H + 1) (m + 2) (fun i => .int .i64 ((num i : Nat) : Int))
  ld : Ld M N N' num k
theorem Lo.off {w wr : World} {base g H m k : Nat} {A : Option Addr} {c r : Nat} {v : Value} {gi : Option Nat} {M N N' : List Br} {num : Nat → Nat} {v' : Value} {gi' : Option Nat} (h : Lo w wr base g H m k A c r v gi M N N' num v' gi') (_h0 : ∀ q, Sv g v gi q → q < H) {q : Nat} (hq : Sv g v' gi' q) : Sv g v gi q ∨ H + 2 ≤ q := by
  rcases hq with e | e | e
  · exact .inl (.inl e)
  · rcases h.vo q e with e | e
    · exact .inl (.inr (.inl e))
    · exact .inr e
  · rcases h.io q e with e | e
    · exact .inl (.inr (.inr e))
    · exact .inr e
theorem Lo.mid {w wr w4 w5 : World} {base g H m k : Nat} {A : Option Addr} {c r : Nat} {v : Value} {gi : Option Nat} {M N N' N2 : List Br} {num : Nat → Nat} {v' : Value} {gi' : Option Nat} (h : Lo w wr base g H m k A c r v gi M N N' num v' gi') (h0 : ∀ q, Sv g v gi q → q < H)
    (hb : Below wr.heap.size wr w4) (hn : Numd w4 w5 base g 0 v' gi' N2) : Blk w5 H 2 (fun i => [Value.slice A m c, .int .i64 (r : Int)].getD i undef) ∧ Blk w5 (H + 1) (m + 2) (fun i => .int .i64 ((num i : Nat) : Int)) := by
  obtain ⟨v2, gi2, htb, hc, ho, hf, hv, hi⟩ := hn
  have hs1 := h.row.lt (by omega)
  have hsz := hb.size
  have hno : ∀ j, j = H ∨ j = H + 1 → ¬ Sv g v' gi' j := fun j hj hs => by
    rcases h.off h0 hs with e | e
    · have := h0 j e; omega
    · omega
  exact ⟨(h.x.below (by omega) hb).keep (hc.block H (by omega) (hno H (.inl rfl))), (h.row.below (by omega) hb).keep (hc.block (H + 1) (by omega) (hno (H + 1) (.inr rfl)))⟩
theorem Lo.step {w wr w4 w5 : World} {base g H m k : Nat} {A : Option Addr} {c r : Nat} {v : Value} {gi : Option Nat} {M N N' N2 : List Br} {num : Nat → Nat} {v' : Value} {gi' : Option Nat} {q : Nat} (h : Lo w wr base g H m k A c r v gi M N N' num v' gi') (h0 : ∀ q, Sv g v gi q → q < H)
    (hb : Below wr.heap.size wr w4) (hn : Numd w4 w5 base g 0 v' gi' N2) (hl : Ld M N N2 (nup num (k + 2) q) (k + 1)) (hk : k < m) :
    ∃ v2 gi2, Lo w (w5.setCell ⟨H + 1, k + 2, none⟩ (.int .i64 (q : Int))) base g H m (k + 1) A c r v gi M N N2 (nup num (k + 2) q) v2 gi2 := by
  obtain ⟨v2, gi2, htb, hc, ho, hf, hv, hi⟩ := hn
  have hgl := h0 g (.inl rfl)
  have hs1 := h.row.lt (by omega)
  have hsz := hb.size
  have hs5 := hc.size
  have hx4 := h.x.below (by omega) hb
  have hr4 := h.row.below (by omega) hb
  have hno : ∀ j, j = H ∨ j = H + 1 → ¬ Sv g v' gi' j := fun j hj hs => by
    rcases h.off h0 hs with e | e
    · have := h0 j e; omega
    · omega
  have hx5 : Blk w5 H 2 _ := hx4.keep (hc.block H (by omega) (hno H (.inl rfl)))
  have hr5 : Blk w5 (H + 1) (m + 2) _ := hr4.keep (hc.block (H + 1) (by omega) (hno (H + 1) (.inr rfl)))
  have hoff : ∀ j, Sv g v2 gi2 j → Sv g v gi j ∨ H + 2 ≤ j := fun j hj => by
    rcases hj with e | e | e
    · exact .inl (.inl e)
    · rcases hv j e with e | e
      · exact h.off h0 (.inr (.inl e))
      · exact .inr (by omega)
    · rcases hi j e with e | e
      · exact h.off h0 (.inr (.inr e))
      · exact .inr (by omega)
  have hne : ∀ j, Sv g v2 gi2 j → j ≠ H + 1 := fun j hj e => by
    rcases hoff j hj with h1 | h1
    · have := h0 j h1; omega
    · omega
  have hkeep : ∀ j, Sv g v2 gi2 j → (w5.setCell ⟨H + 1, k + 2, none⟩ (.int .i64 (q : Int))).heap[j]? = w5.heap[j]? := fun j hj => Below.heap_setCell _ _ _ _ (hne j hj)
  refine ⟨v2, gi2, h.hH, ?_, htb.keepAt (hkeep g (.inl rfl)) (fun j e => hkeep j (.inr (.inl e))) (fun j e => hkeep j (.inr (.inr e))), ?_, ?_, ?_, ?_, hx5.other (by simp) _, (hr5.set (i := k + 2) (by omega) _).congr (fun i hi2 => ?_), hl⟩
  · have c1 : Chg (Sv g v gi) w w4 := h.chg.trans (Chg.of_below (S := fun _ => False) hb) (fun _ _ e => e.elim)
    have c2 : Chg (Sv g v gi) w w5 := c1.trans hc (fun j hj e => by
      rcases h.off h0 e with e | e
      · exact e
      · have := h.hH; omega)
    exact c2.trans ((Chg.refl (fun j => j = H + 1) w5).set rfl _) (fun j hj e => by have := h.hH; omega)
  · intro j j0 j1
    rw [World.cell?_of_block (hkeep g (.inl rfl)), ho j j0 j1, hb.cell (p := ⟨g, j, none⟩) (by show g < _; omega)]
    exact h.oth j j0 j1
  · intro j
    rw [World.frozen?_of_block (hkeep g (.inl rfl)), hf j, hb.frozen (p := ⟨g, j, none⟩) (by show g < _; omega)]
    exact h.fro j
  · intro j e
    rcases hoff j (.inr (.inl e)) with _ | h1
    · rcases hv j e with e | e
      · exact h.vo j e
      · exact .inr (by omega)
    · exact .inr h1
  · intro j e
    rcases hoff j (.inr (.inr e)) with _ | h1
    · rcases hi j e with e | e
      · exact h.io j e
      · exact .inr (by omega)
    · exact .inr h1
  · unfold fup nup
    split
    · rfl
    · rfl

/-- what load leaves -/
def LdOk (w w' : World) (base g : Nat) (M N : List Br) (r : Nat) (e : Ending) : Prop := ∃ (N' : List Br) (q : Nat) (v' : Value) (gi' : Option Nat), e = .returned (.int .i64 (q : Int)) ∧ Dg.Good N' ∧ (∃ X, N' = N ++ X) ∧ N'.length ≤ N.length + M.length ∧ q < N'.length + 2 ∧ Den N' q = Den M r ∧ Tb w' base g 0 N' v' gi' ∧ Below base w w'

end Go.Proofs.YtignkplogkaigaaDoor

/-! Two valid diagrams with one list of branches. -/
namespace Go.Proofs.YtignkplogkaigaaDoor
open Go.RowKit Dg St Go.Maps
attribute [local go_sem ↓] Go.wp_at_zero Go.wp_at_succ

/-- what shared answers -/
def ShOk (w w' : World) (m : Nat) (fa fb : Cfg → Bool) (e : Ending) : Prop := (∃ (A : Option Addr) (n c : Nat) (N : List Br) (ra rb : Nat), e = .returned (.tuple #[.agg #[.slice A n c, .int .i64 (ra : Int)], .agg #[.slice A n c, .int .i64 (rb : Int)]]) ∧
  N.length = n ∧ n ≤ c ∧ n ≤ m ∧ Dg.Good N ∧ Rd w' w'.heap.size A (up N) ∧ ra < n + 2 ∧ rb < n + 2 ∧ Den N ra = fa ∧ Den N rb = fb ∧ Fr A w.heap.size) ∧ Below w.heap.size w w'

/-- the state of shared -/
structure Sd (w wx : World) (H m0 c0 m1 c1 : Nat) (A0 A1 : Option Addr) (N : List Br) (q0 q1 : Nat) (v : Value) (gi : Option Nat) : Prop where
  bel : Below H w wx
  sz : H + 1 + 1 + 1 + 1 < wx.heap.size
  tb : Tb wx (H + 1 + 1 + 1 + 1) (H + 1 + 1 + 1 + 1) 0 N v gi
  y0 : B2 wx H (.slice A0 m0 c0) (.int .i64 (q0 : Int))
  y1 : B2 wx (H + 1) (.slice A1 m1 c1) (.int .i64 (q1 : Int))
  z2 : B2 wx (H + 1 + 1) (.slice none 0 0) (.int .i64 0)
  z3 : B2 wx (H + 1 + 1 + 1) (.slice none 0 0) (.int .i64 0)
theorem Sd.move {w wx wy : World} {H m0 c0 m1 c1 : Nat} {A0 A1 : Option Addr} {N N' : List Br} {q0 q1 : Nat} {v v' : Value} {gi gi' : Option Nat} (h : Sd w wx H m0 c0 m1 c1 A0 A1 N q0 q1 v gi) (hb : Below (H + 1 + 1 + 1 + 1) wx wy) (ht : Tb wy (H + 1 + 1 + 1 + 1) (H + 1 + 1 + 1 + 1) 0 N' v' gi') : Sd w wy H m0 c0 m1 c1 A0 A1 N' q0 q1 v' gi' :=
  ⟨h.bel.trans (hb.mono (by omega)), Nat.lt_of_lt_of_le h.sz hb.size, ht, h.y0.keep (hb.block _ (by omega)), h.y1.keep (hb.block _ (by omega)), h.z2.keep (hb.block _ (by omega)), h.z3.keep (hb.block _ (by omega))⟩
theorem Sd.drew {w wx : World} {H m0 c0 m1 c1 : Nat} {A0 A1 : Option Addr} {N : List Br} {q0 q1 : Nat} {v : Value} {gi : Option Nat} (h : Sd w wx H m0 c0 m1 c1 A0 A1 N q0 q1 v gi) : Sd w wx.drew H m0 c0 m1 c1 A0 A1 N q0 q1 v gi :=
  h.move ((Below.refl (H + 1 + 1 + 1 + 1) wx).drew) (h.tb.keep ((Below.refl wx.heap.size wx).drew))
theorem Tb.low {w : World} {base g o : Nat} {M : List Br} {v : Value} {gi : Option Nat} (h : Tb w base g o M v gi) {q : Nat} (hq : q < base) (j : Nat) (u : Value) : Tb (w.setCell ⟨q, j, none⟩ u) base g o M v gi :=
  h.keepAt (Below.heap_setCell _ _ _ _ (by have := (h.gl (.inl rfl)).1; show g ≠ q; omega)) (fun k e => Below.heap_setCell _ _ _ _ (by have := (h.gl (.inr (.inl e))).1; show k ≠ q; omega)) (fun k e => Below.heap_setCell _ _ _ _ (by have := (h.gl (.inr (.inr e))).1; show k ≠ q; omega))
theorem b2_one {w : World} {g : Nat} {a b : Value} (h : B2 w g a b) (u : Value) : B2 (w.setCell ⟨g, 1, none⟩ u) g a u :=
  (h.set (i := 1) (by omega) u).congr (fun i hi => by
    obtain rfl | rfl : i = 0 ∨ i = 1 := by omega
    all_goals rfl)
theorem Sd.root0 {w wx : World} {H m0 c0 m1 c1 : Nat} {A0 A1 : Option Addr} {N : List Br} {q0 q1 : Nat} {v : Value} {gi : Option Nat} (h : Sd w wx H m0 c0 m1 c1 A0 A1 N q0 q1 v gi) (q : Nat) : Sd w (wx.setCell ⟨H, 1, none⟩ (.int .i64 (q : Int))) H m0 c0 m1 c1 A0 A1 N q q1 v gi :=
  ⟨h.bel.setCell (by simp) _, by have := h.sz; simpa using this, h.tb.low (by omega) _ _, b2_one h.y0 _, h.y1.other (by show H ≠ _; omega) _, h.z2.other (by show H ≠ _; omega) _, h.z3.other (by show H ≠ _; omega) _⟩
theorem Sd.root1 {w wx : World} {H m0 c0 m1 c1 : Nat} {A0 A1 : Option Addr} {N : List Br} {q0 q1 : Nat} {v : Value} {gi : Option Nat} (h : Sd w wx H m0 c0 m1 c1 A0 A1 N q0 q1 v gi) (q : Nat) : Sd w (wx.setCell ⟨H + 1, 1, none⟩ (.int .i64 (q : Int))) H m0 c0 m1 c1 A0 A1 N q0 q v gi :=
  ⟨h.bel.setCell (by simp) _, by have := h.sz; simpa using this, h.tb.low (by omega) _ _, h.y0.other (by show H + 1 ≠ _; omega) _, b2_one h.y1 _, h.z2.other (by show H + 1 ≠ _; omega) _, h.z3.other (by show H + 1 ≠ _; omega) _⟩
/-- what is known of the table's list and the two roots -/
structure Sn (N : List Br) (m q0 q1 : Nat) (fa fb : Cfg → Bool) : Prop where
  good : Dg.Good N
  len : N.length ≤ m
  l0 : q0 < N.length + 2
  l1 : q1 < N.length + 2
  d0 : Den N q0 = fa
  d1 : Den N q1 = fb

end Go.Proofs.YtignkplogkaigaaDoor

/-! Choose of three valid diagrams. -/
namespace Go.Proofs.YtignkplogkaigaaDoor
open Go.RowKit Dg St
attribute [local go_sem ↓] Go.wp_at_zero Go.wp_at_succ

/-- three arguments of combine, the last two from one list -/
def tri (A0 A1 : Option Addr) (m0 c0 r0 m1 c1 r1 r2 : Nat) (N0 N1 : List Br) : Ca where
  A t := if t = 0 then A0 else if t = 1 then A1 else if t = 2 then A1 else none
  m t := if t = 0 then m0 else if t = 1 then m1 else if t = 2 then m1 else 0
  c t := if t = 0 then c0 else if t = 1 then c1 else if t = 2 then c1 else 0
  r t := if t = 0 then r0 else if t = 1 then r1 else if t = 2 then r2 else 0
  N t := if t = 0 then N0 else if t = 1 then N1 else if t = 2 then N1 else []
theorem tri_ok {w : World} {A0 A1 : Option Addr} {m0 c0 r0 m1 c1 r1 r2 : Nat} {N0 N1 : List Br} (h0 : Rd w w.heap.size A0 (up N0)) (h1 : Rd w w.heap.size A1 (up N1)) (l0 : N0.length = m0) (l1 : N1.length = m1) (b0 : m0 ≤ 4096) (b1 : m1 ≤ 4096) (o0 : Ord N0) (o1 : Ord N1) (q0 : r0 < m0 + 2) (q1 : r1 < m1 + 2) (q2 : r2 < m1 + 2) : (tri A0 A1 m0 c0 r0 m1 c1 r1 r2 N0 N1).Ok 3 w := by
  refine ⟨fun t ht => ?_, fun t => ?_, fun t => ?_, fun t => ?_, fun t => ?_, fun t ht => ?_⟩
  · obtain rfl | rfl | rfl : t = 0 ∨ t = 1 ∨ t = 2 := by omega
    · exact h0
    · exact h1
    · exact h1
  · unfold tri; simp only; split
    · exact l0
    · split
      · exact l1
      · split
        · exact l1
        · rfl
  · unfold tri; simp only; split
    · exact b0
    · split
      · exact b1
      · split
        · exact b1
        · omega
  · unfold tri; simp only; split
    · exact o0
    · split
      · exact o1
      · split
        · exact o1
        · exact good_nil.ord
  · unfold tri; simp only; split
    · exact q0
    · split
      · exact q1
      · split
        · exact q2
        · omega
  · unfold tri
    simp only
    have e0 : ¬ t = 0 := by omega
    have e1 : ¬ t = 1 := by omega
    have e2 : ¬ t = 2 := by omega
    simp only [e0, e1, e2, if_false]
    exact ⟨trivial, trivial, trivial, trivial⟩
theorem tri_pr {A0 A1 : Option Addr} {m0 c0 r0 m1 c1 r1 r2 : Nat} {N0 N1 : List Br} (q0 : r0 < 4098) (q1 : r1 < 4098) (q2 : r2 < 4098) : ∀ k, k ≤ 3 → (tri A0 A1 m0 c0 r0 m1 c1 r1 r2 N0 N1).pr k ≤ 1000000000000 := by
  intro k hk
  have h0 : r0 + 1 ≤ 4098 := by omega
  have h1 : (r0 + 1) * (r1 + 1) ≤ 4098 * 4098 := Nat.mul_le_mul (by omega) (by omega)
  have h2 : (r0 + 1) * (r1 + 1) * (r2 + 1) ≤ 4098 * 4098 * 4098 := Nat.mul_le_mul h1 (by omega)
  obtain rfl | rfl | rfl | rfl : k = 0 ∨ k = 1 ∨ k = 2 ∨ k = 3 := by omega
  · show 1 ≤ _; omega
  · show 1 * (r0 + 1) ≤ _; omega
  · show 1 * (r0 + 1) * (r1 + 1) ≤ _; rw [Nat.one_mul]; omega
  · show 1 * (r0 + 1) * (r1 + 1) * (r2 + 1) ≤ _; rw [Nat.one_mul]; omega
/-- the cells of three diagrams -/
abbrev L6 (A0 A1 A2 : Option Addr) (m0 c0 r0 m1 c1 r1 m2 c2 r2 : Nat) : List Value := [.slice A0 m0 c0, .int .i64 (r0 : Int), .slice A1 m1 c1, .int .i64 (r1 : Int), .slice A2 m2 c2, .int .i64 (r2 : Int)]

theorem d64_ite {f g h : Cfg → Bool} (hf : D64 f) (hg : D64 g) (hh : D64 h) : D64 (fun x => if f x then g x else h x) := fun c c' hc => by show (if f c then g c else h c) = (if f c' then g c' else h c'); rw [hf c c' hc, hg c c' hc, hh c c' hc]

end Go.Proofs.YtignkplogkaigaaDoor
