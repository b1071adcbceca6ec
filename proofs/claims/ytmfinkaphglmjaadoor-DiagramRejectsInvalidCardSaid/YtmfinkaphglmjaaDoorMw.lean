/-
  Plain mathematics and contracts of package diagram, several texts in one: DRejK.
-/
import Derived.Test.YtmfinkaphglmjaaDoorMk
import Derived.Test.YtmfinkaphglmjaaDoorMi
import Derived.Test.YtmfinkaphglmjaaDoorMu
import Derived.Test.YtmfinkaphglmjaaDoorMv
import Derived.Test.YtmfinkaphglmjaaDoorMo
import Derived.Deep.AppendLies
import Derived.Deep.DeepCutAuto

/-! DiagramRejectsInvalid. -/
namespace Go.Proofs.YtmfinkaphglmjaaDoor
open Go.RowKit Dg St
attribute [local go_sem ↓] Go.wp_at_zero Go.wp_at_succ

theorem row_empty {W : World} {base B : Nat} (hb : base ≤ B) (h : W.heap[B]? = some (.cells #[] 72 (0, 0))) : W.ownsRow base 72 3 (.slice (some ⟨B, 0, none⟩) 0 0) 0 [] :=
  ⟨rfl, .inr ⟨B, 0, #[], rfl, hb, h, Nat.le_refl _, Nat.zero_le _, rfl, rfl⟩⟩

/-- behind the region that copies the diagram: its box gb, its row -/
structure Cp (w wx : World) (ga gb : Nat) (A : Option Addr) (m c r : Nat) (f : Cfg → Bool) (Ab : Option Addr) (cb : Nat) : Prop where
  bel : Below w.heap.size w wx
  ins : Ins wx 0
  box : B2 wx ga (.slice A m c) (.int .i64 (r : Int))
  dn : Dn wx A m c r f
  bad : B2 wx gb (.slice Ab m cb) (.int .i64 (r : Int))
  mc : m ≤ cb
  row : 0 < m → ∃ g, Ab = some ⟨g, 0, none⟩ ∧ w.heap.size ≤ g ∧ g ≠ gb ∧ g ≠ ga ∧ Blk wx g (m * 3) (brc (brs (cn f).1)) ∧ ∀ b o, A = some ⟨b, o, none⟩ → b ≠ g
  new : w.heap.size ≤ gb
  ne : gb ≠ ga
  off : ∀ b o, A = some ⟨b, o, none⟩ → 0 < m → b ≠ gb

theorem step_append_zero {P : Program} {w : World} {ops : Array Oper} {o : Oper} {a : Act} {K : Act → World → Prop} {Q : Exit → Act → World → Prop} {E : Prop} (hgd : o.guard = none) (s x : Operand) (t : TypeId)
    (ho : o.op = .call { callee := .builtin .append, args := #[s, x], argTypes := #[t, t] })
    (base : Nat) (e : TypeId) (i : TypeInfo) (size : Nat) (ht : P.underlying t = some (.slice e)) (hi : P.info? e = some i)
    (v : Value) (n : Nat) (xs : List Value) (hs : a.eval s = v) (hown : w.ownsRow base e size v n xs) (A : Option Addr) (c : Nat) (hx : a.eval x = .slice A 0 c) (h : K (a.put o.dst v) w) :
    if Region.wanted o (yielded ops a.tmps) = true then Oper.wp P o a w K Q else E := by
  have hw : Region.wanted o (yielded ops a.tmps) = true := by simp [Region.wanted, hgd]
  rw [if_pos hw]
  have hr := run_append_none base t o.type e i size P w ht hi v n c A xs hown
  unfold Oper.wp execOp
  simp only [ho, resolve, invoke, builtin, Sem.run_bind, Sem.run_pure, Result.andThen_ok, List.map_toArray, List.map_cons, List.map_nil, hs, hx, hr]
  exact h
abbrev EB : Obj := .cells #[] 72
abbrev ZB : Obj := .cells #[.slice none 0 0, .int .i64 0] 24
theorem emp1 (w : World) : (w.alloc EB).drew.ownsRow w.heap.size 72 3 (.slice (some ⟨w.heap.size, 0, none⟩) 0 0) 0 [] := row_empty (Nat.le_refl _) (heap_alloc_new w _)
theorem emp2 (w : World) : ((w.alloc EB).alloc ZB).drew.ownsRow w.heap.size 72 3 (.slice (some ⟨w.heap.size, 0, none⟩) 0 0) 0 [] :=
  row_empty (Nat.le_refl _) ((Below.heap_alloc (w.alloc EB) ZB w.heap.size (by simp)).trans (heap_alloc_new w _))
theorem emp3 (w : World) : ((w.alloc ZB).alloc EB).drew.ownsRow w.heap.size 72 3 (.slice (some ⟨w.heap.size + 1, 0, none⟩) 0 0) 0 [] :=
  row_empty (by omega) (by
    have h := heap_alloc_new (w.alloc ZB) EB
    rw [show (w.alloc ZB).heap.size = w.heap.size + 1 by simp] at h
    exact h)
theorem blw1 (w : World) : Below w.heap.size w (w.alloc EB).drew := (ab2 w _).drew
theorem blw2 (w : World) : Below w.heap.size w ((w.alloc EB).alloc ZB).drew := ((ab2 w _).alloc (by simp) _).drew
theorem blw3 (w : World) : Below w.heap.size w ((w.alloc ZB).alloc EB).drew := ((ab2 w _).alloc (by simp) _).drew
theorem grow_z2 {w w5 : World} (hg : ((w.alloc EB).alloc ZB).drew.grownBy w5 (some w.heap.size)) : B2 w5 (w.heap.size + 1) (.slice none 0 0) (.int .i64 0) :=
  (Blk.new (w := w.alloc EB) (H := w.heap.size + 1) (by simp) [.slice none 0 0, .int .i64 0] 24).keep (w' := w5) (hg.block (w.heap.size + 1) (by simp [World.drew]) (by simp))
theorem grow_z3 {w w5 : World} (hg : ((w.alloc ZB).alloc EB).drew.grownBy w5 (some (w.heap.size + 1))) : B2 w5 w.heap.size (.slice none 0 0) (.int .i64 0) :=
  ((Blk.new (w := w) rfl [.slice none 0 0, .int .i64 0] 24).alloc (by simp) EB).keep (w' := w5) (hg.block w.heap.size (by simp [World.drew]; omega) (by simp))
theorem grow_n2 {w : World} {g : Nat} (h : (Value.slice (some ⟨w.heap.size, 0, none⟩) 0 0).ownBlock = some g ∨ g = ((w.alloc EB).alloc ZB).drew.heap.size) : g ≠ w.heap.size + 1 := by
  rcases h with h | h
  · simp [Value.ownBlock] at h; omega
  · simp [World.drew] at h; omega
theorem grow_n3 {w : World} {g : Nat} (h : (Value.slice (some ⟨w.heap.size + 1, 0, none⟩) 0 0).ownBlock = some g ∨ g = ((w.alloc ZB).alloc EB).drew.heap.size) : g ≠ w.heap.size := by
  rcases h with h | h
  · simp [Value.ownBlock] at h; omega
  · simp [World.drew] at h; omega
theorem grow_below {w W w5 : World} {B : Nat} (h : Below w.heap.size w W) (hg : W.grownBy w5 (some B)) (hB : w.heap.size ≤ B) : Below w.heap.size w w5 :=
  h.trans ⟨hg.os, hg.tape, hg.output, hg.size, fun k hk => hg.block k (Nat.lt_of_lt_of_le hk h.size) (fun e => by injection e with e; omega)⟩
/-- behind the append -/
structure Ap (w4 w5 : World) (g cap m : Nat) (M : List Br) : Prop where
  bel : Below w4.heap.size w4 w5
  own : w5.ownsRow w4.heap.size 72 3 (.slice (some ⟨g, 0, none⟩) m cap) m (flat M)
theorem Ap.cap {w4 w5 : World} {g cap m : Nat} {M : List Br} (h : Ap w4 w5 g cap m M) : m ≤ cap := by
  rcases h.own.2 with ⟨e, _⟩ | ⟨g', cap', cur, e, _, _, h3, _⟩
  · cases e
  · injection e with _ _ e3; omega
theorem Ap.ge {w4 w5 : World} {g cap m : Nat} {M : List Br} (h : Ap w4 w5 g cap m M) : w4.heap.size ≤ g := by
  rcases h.own.2 with ⟨e, _⟩ | ⟨g', cap', cur, e, h2, _⟩
  · cases e
  · injection e with e1; injection e1 with e2; injection e2 with e3; omega
theorem dn_block {w : World} {A : Option Addr} {m c r b o : Nat} {f : Cfg → Bool} (h : Dn w A m c r f) (e : A = some ⟨b, o, none⟩) (h0 : 0 < m) : b < w.heap.size := by
  obtain ⟨b', o', e', hb', _⟩ := h.rd (by rw [up_len, h.len]; exact h0)
  rw [e] at e'
  injection e' with e2
  injection e2 with e3
  omega
theorem dn_cell {w : World} {A : Option Addr} {m c r q j : Nat} {f : Cfg → Bool} (h : Dn w A m c r f) (u : Value) (hq : ∀ b o, A = some ⟨b, o, none⟩ → 0 < m → b ≠ q) : Dn (w.setCell ⟨q, j, none⟩ u) A m c r f := by
  refine ⟨fun h0 => ?_, h.len, h.rt, h.mc, h.lm, h.d⟩
  have h1 : 0 < m := by rw [up_len, h.len] at h0; exact h0
  have k := h.rd.keepA (w' := w.setCell ⟨q, j, none⟩ u) (fun b o e => Below.heap_setCell _ _ _ _ (hq b o e h1))
  exact (k.mono (by simp [World.setCell])) h0
theorem cp_of {w w4 w5 wz : World} {ga gb g cap m c r : Nat} {A : Option Addr} {f : Cfg → Bool} (h : Ap w4 w5 g cap m (cn f).1) (hB : Below w.heap.size w w4) (hi : Ins w4 0) (hx : B2 w4 ga (.slice A m c) (.int .i64 (r : Int))) (hd : Dn w4 A m c r f)
    (hz : Below w4.heap.size w5 wz) (hg : wz.heap[g]? = w5.heap[g]?) (hb : B2 wz gb (.slice (some ⟨g, 0, none⟩) m cap) (.int .i64 (r : Int))) (hgb : w4.heap.size ≤ gb) (hne : g ≠ gb) (h0 : 0 < m) : Cp w wz ga gb A m c r f (some ⟨g, 0, none⟩) cap := by
  have k := h.bel.trans hz
  have s1 := hB.size
  have gl := hx.lt (by omega)
  refine ⟨hB.trans (k.mono s1), hi.below k, hx.below (by omega) k, hd.below k, hb, h.cap, fun _ => ⟨g, rfl, by have := h.ge; omega, hne, by have := h.ge; omega, (own_blk h.own hd.len).keep hg, fun b o e => ?_⟩, by omega, by omega, fun b o e h1 => by have := dn_block hd e h1; omega⟩
  obtain ⟨b', o', e', hb', _⟩ := hd.rd (by rw [up_len, hd.len]; exact h0)
  rw [e] at e'
  injection e' with e2
  injection e2 with e3
  have := h.ge
  omega
theorem Cp.drew {w wz : World} {ga gb cap m c r : Nat} {A Ab : Option Addr} {f : Cfg → Bool} (h : Cp w wz ga gb A m c r f Ab cap) : Cp w wz.drew ga gb A m c r f Ab cap :=
  ⟨h.bel.drew, h.ins.below (Below.refl _ _).drew, h.box, h.dn.below (Below.refl _ _).drew, h.bad, h.mc, h.row, h.new, h.ne, h.off⟩
theorem cp_new {w w4 w5 : World} {ga g cap m c r : Nat} {A : Option Addr} {f : Cfg → Bool} (h : Ap w4 w5 g cap m (cn f).1) (hB : Below w.heap.size w w4) (hi : Ins w4 0) (hx : B2 w4 ga (.slice A m c) (.int .i64 (r : Int))) (hd : Dn w4 A m c r f) (h0 : 0 < m) (hgg : g < w5.heap.size) :
    Cp w (w5.alloc (.cells #[.slice (some ⟨g, 0, none⟩) m cap, .int .i64 (r : Int)] 24)) ga w5.heap.size A m c r f (some ⟨g, 0, none⟩) cap :=
  cp_of h hB hi hx hd ((ab2 w5 _).mono h.bel.size) (Below.heap_alloc w5 _ g hgg) (nb2 w5 _ _ _).out h.bel.size (by omega) h0
theorem cp_set {w w4 w5 : World} {ga gb g cap m c r : Nat} {A : Option Addr} {f : Cfg → Bool} {a b : Value} (h : Ap w4 w5 g cap m (cn f).1) (hB : Below w.heap.size w w4) (hi : Ins w4 0) (hx : B2 w4 ga (.slice A m c) (.int .i64 (r : Int))) (hd : Dn w4 A m c r f) (h0 : 0 < m) (hz : B2 w5 gb a b) (hgb : w4.heap.size ≤ gb) (hne : g ≠ gb) :
    Cp w ((w5.setCell ⟨gb, 0, none⟩ (.slice (some ⟨g, 0, none⟩) m cap)).setCell ⟨gb, 1, none⟩ (.int .i64 (r : Int))) ga gb A m c r f (some ⟨g, 0, none⟩) cap :=
  cp_of h hB hi hx hd (((Below.refl w4.heap.size w5).setCell hgb _).setCell hgb _) ((Below.heap_setCell _ _ _ _ hne).trans (Below.heap_setCell _ _ _ _ hne))
    (((hz.set (i := 0) (by omega) _).set (i := 1) (by omega) _).congr (fun i hi => by
      obtain rfl | rfl : i = 0 ∨ i = 1 := by omega
      all_goals rfl)) hgb hne h0
theorem cp_nil {w w4 wz : World} {ga gb c r cap : Nat} {A Ab : Option Addr} {f : Cfg → Bool} (hB : Below w.heap.size w w4) (hi : Ins w4 0) (hx : B2 w4 ga (.slice A 0 c) (.int .i64 (r : Int))) (hd : Dn w4 A 0 c r f)
    (k : Below w4.heap.size w4 wz) (hb : B2 wz gb (.slice Ab 0 cap) (.int .i64 (r : Int))) (hgb : w4.heap.size ≤ gb) : Cp w wz ga gb A 0 c r f Ab cap := by
  have s1 := hB.size
  have gl := hx.lt (by omega)
  exact ⟨hB.trans (k.mono s1), hi.below k, hx.below (by omega) k, hd.below k, hb, by omega, fun h => absurd h (by omega), by omega, by omega, fun b o e h1 => absurd h1 (by omega)⟩

theorem cp_nil1 {w w4 : World} {ga c r cap q : Nat} {A Ab : Option Addr} {f : Cfg → Bool} (hB : Below w.heap.size w w4) (hi : Ins w4 0) (hx : B2 w4 ga (.slice A 0 c) (.int .i64 (r : Int))) (hd : Dn w4 A 0 c r f) (hq : q = w4.heap.size + 1) :
    Cp w ((w4.alloc EB).alloc (.cells #[.slice Ab 0 cap, .int .i64 (r : Int)] 24)) ga q A 0 c r f Ab cap := by
  subst hq
  have h := nb2 (w4.alloc EB) (.slice Ab 0 cap) (.int .i64 (r : Int)) 24
  rw [show (w4.alloc EB).heap.size = w4.heap.size + 1 by simp] at h
  exact cp_nil hB hi hx hd ((ab2 w4 _).alloc (by simp) _) h.out (by omega)
theorem cp_nil2 {w w4 : World} {ga c r cap : Nat} {A Ab : Option Addr} {f : Cfg → Bool} (hB : Below w.heap.size w w4) (hi : Ins w4 0) (hx : B2 w4 ga (.slice A 0 c) (.int .i64 (r : Int))) (hd : Dn w4 A 0 c r f) :
    Cp w ((w4.alloc (.cells #[.slice Ab 0 cap, .int .i64 (r : Int)] 24)).alloc EB) ga w4.heap.size A 0 c r f Ab cap :=
  cp_nil hB hi hx hd ((ab2 w4 _).alloc (by simp) _) ((nb2 w4 (.slice Ab 0 cap) (.int .i64 (r : Int)) 24).out.alloc (by omega) EB) (Nat.le_refl _)

/-- the branches with one number changed -/
def lof (k fld : Nat) (v : Int) (M : List Br) : List Bi := (List.range M.length).map fun j => (if j = k ∧ fld = 0 then v else (bv M j : Int), if j = k ∧ fld = 1 then v else (bl M j : Int), if j = k ∧ fld = 2 then v else (bh M j : Int))
theorem lof_len (k fld : Nat) (v : Int) (M : List Br) : (lof k fld v M).length = M.length := by unfold lof; simp
theorem lof_at (k fld : Nat) (v : Int) (M : List Br) (j : Nat) (hj : j < M.length) : (lof k fld v M).getD j (0, 0, 0) = (if j = k ∧ fld = 0 then v else (bv M j : Int), if j = k ∧ fld = 1 then v else (bl M j : Int), if j = k ∧ fld = 2 then v else (bh M j : Int)) := by
  unfold lof
  rw [List.getD_eq_getElem?_getD, List.getElem?_map, List.getElem?_range hj]
  rfl
theorem lof_wi {k fld : Nat} {v : Int} {M : List Br} (hv : -9223372036854775808 ≤ v ∧ v ≤ 9223372036854775807) (h : Ord M) (hl : M.length ≤ 1000000) : Wi (lof k fld v M) := by
  intro j hj
  rw [lof_len] at hj
  obtain ⟨h1, h2, h3, _, _⟩ := h j hj
  unfold iv il ih
  rw [lof_at _ _ _ _ _ hj]
  refine ⟨?_, ?_, ?_⟩
  all_goals
    simp only
    split
    · exact hv
    · omega
theorem lof_rd {w : World} {g m k fld : Nat} {v : Int} {M : List Br} (h : Blk w g (m * 3) (fup (brc (brs M)) (k * 3 + fld) (.int .i64 v))) (hl : M.length = m) (hf : fld < 3) : Rd w w.heap.size (some ⟨g, 0, none⟩) (lof k fld v M) := fun h0 => by
  rw [lof_len] at h0
  refine ⟨g, 0, rfl, h.lt (by omega), fun j hj => ?_⟩
  rw [lof_len] at hj
  unfold iv il ih
  rw [lof_at _ _ _ _ _ hj, Nat.zero_add]
  have c0 := (h (j * 3) (by omega)).1
  have c1 := (h (j * 3 + 1) (by omega)).1
  have c2 := (h (j * 3 + 2) (by omega)).1
  unfold fup at c0 c1 c2
  rw [brc0] at c0
  rw [brc1] at c1
  rw [brc2] at c2
  refine ⟨c0.trans ?_, c1.trans ?_, c2.trans ?_⟩
  · by_cases e : j = k ∧ fld = 0
    · rw [if_pos (by omega), if_pos e]
    · rw [if_neg (by omega), if_neg e]; rfl
  · by_cases e : j = k ∧ fld = 1
    · rw [if_pos (by omega), if_pos e]
    · rw [if_neg (by omega), if_neg e]; rfl
  · by_cases e : j = k ∧ fld = 2
    · rw [if_pos (by omega), if_pos e]
    · rw [if_neg (by omega), if_neg e]; rfl
/-- behind the change -/
structure Md (w wx : World) (ga gb : Nat) (A : Option Addr) (m c r : Nat) (f : Cfg → Bool) (Ab : Option Addr) (cb : Nat) (l : List Bi) (rr : Int) : Prop where
  bel : Below w.heap.size w wx
  ins : Ins wx 0
  box : B2 wx ga (.slice A m c) (.int .i64 (r : Int))
  dn : Dn wx A m c r f
  bad : B2 wx gb (.slice Ab m cb) (.int .i64 rr)
  ok : DOk wx ⟨Ab, m, cb, l, rr⟩
theorem cp_i64 (r m : Nat) (h : r < m + 2) (h2 : m ≤ 33) : I64 (r : Int) := ⟨by omega, by omega⟩
set_option maxRecDepth 100000 in
theorem md_root {w wx : World} {ga gb cb m c r : Nat} {A Ab : Option Addr} {f : Cfg → Bool} {v : Int} (hI : Ins w 0) (h : Cp w wx ga gb A m c r f Ab cb) (hm : m ≤ 33) (hv : -9223372036854775808 ≤ v ∧ v ≤ 9223372036854775807) : Md w (wx.setCell ⟨gb, 1, none⟩ (.int .i64 v)) ga gb A m c r f Ab cb (up (cn f).1) v := by
  have hl := h.dn.len
  have hord := h.dn.valid.good.ord
  have hrd : Rd (wx.setCell ⟨gb, 1, none⟩ (.int .i64 v)) (wx.setCell ⟨gb, 1, none⟩ (.int .i64 v)).heap.size Ab (up (cn f).1) := by
    intro h0
    rw [up_len, hl] at h0
    obtain ⟨g, rfl, _, hgb, _, hb, _⟩ := h.row h0
    exact (hb.other (p := ⟨gb, 1, none⟩) (fun e => hgb e.symm) _).rd hl (fun _ _ => rfl) (by rw [up_len, hl]; exact h0)
  have hle : (cn f).1.length ≤ 1000000 := by rw [hl]; omega
  have hwi : Wi (up (cn f).1) := wi_up hord hle
  have hlen : (up (cn f).1).length = m := by rw [up_len, hl]
  generalize up (cn f).1 = l2 at *
  have hlm : m ≤ 9223372036854775800 := by omega
  exact { bel := h.bel.setCell h.new _, ins := hI.below (h.bel.setCell h.new _), box := h.box.other h.ne _, dn := dn_cell h.dn _ h.off, bad := b2_one h.bad _, ok := { rd := hrd, wi := hwi, len := hlen, lm := hlm, mc := h.mc, ri := hv } }
set_option maxRecDepth 100000 in
theorem md_set {w wx : World} {ga gb cb m c r k fld g : Nat} {A : Option Addr} {f : Cfg → Bool} {v : Int} (hI : Ins w 0) (h : Cp w wx ga gb A m c r f (some ⟨g, 0, none⟩) cb) (hm : m ≤ 33) (h0 : 0 < m) (hk : k < m) (hf : fld < 3) (hv : -9223372036854775808 ≤ v ∧ v ≤ 9223372036854775807) : Md w (wx.setCell ⟨g, k * 3 + fld, none⟩ (.int .i64 v)) ga gb A m c r f (some ⟨g, 0, none⟩) cb (lof k fld v (cn f).1) (r : Int) := by
  obtain ⟨g', e, hg1, hg2, hg3, hb, hA⟩ := h.row h0
  injection e with e1
  injection e1 with e2
  subst e2
  have hl := h.dn.len
  have hord := h.dn.valid.good.ord
  have hle : (cn f).1.length ≤ 1000000 := by rw [hl]; omega
  have hrd := lof_rd (hb.set (i := k * 3 + fld) (by omega) (.int .i64 v)) hl hf
  have hwi : Wi (lof k fld v (cn f).1) := lof_wi hv hord hle
  have hlen : (lof k fld v (cn f).1).length = m := by rw [lof_len, hl]
  clear hb
  generalize lof k fld v (cn f).1 = l2 at *
  have hlm : m ≤ 9223372036854775800 := by omega
  have hr := cp_i64 r m h.dn.lt hm
  exact { bel := h.bel.setCell hg1 _, ins := hI.below (h.bel.setCell hg1 _), box := h.box.other (fun e => hg3 e) _, dn := dn_cell h.dn _ (fun b o e _ => hA b o e), bad := h.bad.other (fun e => hg2 e) _, ok := { rd := hrd, wi := hwi, len := hlen, lm := hlm, mc := h.mc, ri := hr } }

end Go.Proofs.YtmfinkaphglmjaaDoor
