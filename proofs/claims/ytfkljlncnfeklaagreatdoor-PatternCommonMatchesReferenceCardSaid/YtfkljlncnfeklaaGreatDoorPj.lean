/-
  Plain mathematics and contracts of package diagram, several texts in one: XPs, XPd, XBr, XAt, XRp, XSe, XAu, XPp.
-/
import Derived.Test.YtfkljlncnfeklaaGreatDoorPi
import Derived.Test.YtfkljlncnfeklaaGreatDoorPe
import Derived.Test.YtfkljlncnfeklaaGreatDoorPd
import Derived.Test.YtfkljlncnfeklaaGreatDoorPh

/-! The parser in memory; at, take, atAtom, character. -/
namespace Go.Proofs.YtfkljlncnfeklaaGreatDoor
open Go.RowKit Go.Shelf
set_option linter.unusedVariables false
set_option linter.unusedSimpArgs false
attribute [local go_sem ↓] Go.wp_at_zero Go.wp_at_succ

set_option maxHeartbeats 1000000 in
theorem run_eql_tk (w : World) (a x : Bool) (b y : Int) :
    (binOp .eql 129 (.agg #[.bool a, .int .i64 b]) (.agg #[.bool x, .int .i64 y])).run Tryz.prog w = .ok (.bool (a == x && b == y)) w := by
  have hf : Tryz.prog.underlying 129 = some (.struct (Tryz.prog.fieldsOf 129)) := by kernel_rfl
  have hfl : (Tryz.prog.fieldsOf 129).toList.map (fun f => (f.name, f.type, f.offset)) = [("reserved", 4, 0), ("value", 3, 1)] := by kernel_rfl
  have hs : Tryz.prog.stoodInHeld 129 = false := by kernel_rfl
  have hu := Tryz.underlying3
  have hub := Tryz.underlying4
  rw [run_eql_struct, run_equalIn_agg w 9999 _ _ _ hf hs]
  rcases hl : (Tryz.prog.fieldsOf 129).toList with _ | ⟨f0, _ | ⟨f1, _ | ⟨f2, fs⟩⟩⟩ <;> rw [hl] at hfl <;> simp at hfl
  obtain ⟨⟨n0, t0, o0⟩, ⟨n1, t1, o1⟩⟩ := hfl
  have p0 : ∀ (w : World) (a : Bool) (b : Int), (part 4 #[Value.bool a, .int .i64 b] 0).run Tryz.prog w = .ok (.bool a) w := fun w a b => by kernel_rfl
  have p1 : ∀ (w : World) (a : Bool) (b : Int), (part 3 #[Value.bool a, .int .i64 b] 1).run Tryz.prog w = .ok (.int .i64 b) w := fun w a b => by kernel_rfl
  have q : ∀ (w : World) (a b : Int), (Op.equalIn 9999 3 (.int .i64 a) (.int .i64 b)).run Tryz.prog w = .ok (a == b) w := fun w a b => run_equalIn_int w 9998 _ _ _ a b hu
  have qb : ∀ (w : World) (a b : Bool), (Op.equalIn 9999 4 (.bool a) (.bool b)).run Tryz.prog w = .ok (a == b) w := fun w a b => run_equalIn_bool w 9998 _ a b hub
  simp only [Op.eqFields, n0, n1, t0, t1, o0, o1, ne_eq, not_false_eq_true, String.reduceEq, if_true, Sem.run_bind, p0, q, qb, Result.andThen_ok]
  rcases h1 : (a == x) with _ | _
  · simp
  · rcases h2 : (b == y) with _ | _
    · simp [p1, q, h2]
    · simp [p1, q, h2]
/-- a parser in block pb: the tokens that are left, the nodes that it has added -/
structure PaS (W : World) (B pb : Nat) (A : Option Addr) (n c : Nat) (vn : Value) (t : List Tok) (l : List Pn) : Prop where
  bx : Bx W pb #[.slice A n c, vn] 90
  len : t.length = n
  nc : n ≤ c
  rest : 0 < n → ∃ q o cs, A = some ⟨q, o, none⟩ ∧ Bx W q cs 129 ∧ ∀ j, j < n → cs[o + j * 2]? = some (.bool (t.getD j (false, 0)).1) ∧ cs[o + j * 2 + 1]? = some (.int .i64 (((t.getD j (false, 0)).2 : Nat) : Int))
  own : W.ownsRow B 42 5 vn l.length (pnC l)
  hB : B ≤ pb
def PaE (W : World) (B pb : Nat) (t : List Tok) (l : List Pn) : Prop := ∃ A n c vn, PaS W B pb A n c vn t l
/-- the next token is this reserved byte -/
def atP (t : List Tok) (v : Int) : Bool := match t with | (true, x) :: _ => (x : Int) == v | _ => false
section
variable {W W' : World} {B pb n c : Nat} {A : Option Addr} {vn : Value} {t : List Tok} {l : List Pn}
theorem PaS.tok (h : PaS W B pb A n c vn t l) {x : Tok} {u : List Tok} (ht : t = x :: u) : ∃ q o, A = some ⟨q, o, none⟩ ∧ W.cell? ⟨q, o, none⟩ = some (.bool x.1) ∧ W.cell? ⟨q, o + 1, none⟩ = some (.int .i64 ((x.2 : Nat) : Int)) := by
  subst ht
  obtain ⟨q, o, cs, e, hx, hc⟩ := h.rest (by have := h.len; simp at this; omega)
  obtain ⟨a, b⟩ := hc 0 (by have := h.len; simp at this; omega)
  exact ⟨q, o, e, (hx.cell _).trans a, (hx.cell _).trans b⟩
theorem PaS.ne (h : PaS W B pb A n c vn t l) {q T : Nat} {cs : Array Value} (hx : Bx W q cs T) (hT : T ≠ 90) : q ≠ pb := bx_ne hx h.bx hT
/-- the parser reads a token -/
theorem PaS.next (h : PaS W B pb A n c vn t l) {x : Tok} {u : List Tok} (ht : t = x :: u) {q o : Nat} (hA : A = some ⟨q, o, none⟩) (A' : Option Addr) (c' : Nat) (hc' : n - 1 ≤ c') (hA' : 0 < n - 1 → A' = some ⟨q, o + 2, none⟩) : PaE (W.setCell ⟨pb, 0, none⟩ (.slice A' (n - 1) c')) B pb u l := by
  subst ht
  have hl := h.len
  rw [List.length_cons] at hl
  obtain ⟨q', o', cs, e, hx, hc⟩ := h.rest (by omega)
  rw [hA] at e
  cases e
  have hne := h.ne hx (by decide)
  have hvn : vn.ownBlock ≠ some pb := own_ne h.own h.bx (by decide)
  refine ⟨_, _, _, _, heap_set W pb 0 _ h.bx, by omega, hc', fun h0 => ⟨q, o + 2, cs, hA' h0, (hp_set W pb 0 _ hne).trans hx, fun j hj => ?_⟩, h.own.kept (row := some pb) (grown_set W pb 0 _) (.inr hvn), h.hB⟩
  have := hc (j + 1) (by omega)
  rw [show o + (j + 1) * 2 = o + 2 + j * 2 by omega] at this
  exact this
end
set_option maxRecDepth 100000 in
set_option maxHeartbeats 1000000 in
theorem at_any (B pb : Nat) (t : List Tok) (l : List Pn) (v : Int) (w : World) (h : Hid (PaE w B pb t l)) : Calls Tryz.prog 95 #[.pointer (some ⟨pb, 0, none⟩), .int .i64 v] w fun e w' => e = .returned (.bool (atP t v)) ∧ w' = w := by
  obtain ⟨A, n, c, vn, hS⟩ := h.out
  have x0 := hS.bx.cell 0
  simp at x0
  have hl := hS.len
  rcases t with _ | ⟨⟨r, x⟩, u⟩
  · have hn : n = 0 := by rw [← hl]; rfl
    subst hn
    clear hS hl
    go_enter Tryz.func95, Tryz.ntmps95
    go_wp2
    go_ret
    exact ⟨rfl, rfl⟩
  · obtain ⟨q, o, rfl, c0, c1⟩ := hS.tok rfl
    have heq := fun W : World => run_eql_tk W r true (x : Int) v
    have hn : (0 : Int) < (n : Int) := by simp at hl; omega
    have hn1 : 0 < n := by omega
    have HV := Lib.hid (show (r && (x : Int) == v) = atP ((r, x) :: u) v by cases r <;> rfl)
    clear hS hl
    go_enter Tryz.func95, Tryz.ntmps95
    go_wp2
    go_ret
    exact ⟨by rw [← HV.out]; rfl, rfl⟩
/-- what take leaves -/
def tkP (t : List Tok) (v : Int) : List Tok := if atP t v then t.tail else t
theorem atP_cons {t : List Tok} {v : Int} (h : atP t v = true) : ∃ x u, t = (true, x) :: u ∧ (x : Int) = v := by
  rcases t with _ | ⟨⟨r, x⟩, u⟩
  · cases h
  · cases r
    · cases h
    · exact ⟨x, u, rfl, by simpa [atP] using h⟩
set_option maxRecDepth 100000 in
set_option maxHeartbeats 1000000 in
theorem take_any (B pb : Nat) (t : List Tok) (l : List Pn) (v : Int) (w : World) (h : Hid (PaE w B pb t l)) : Calls Tryz.prog 78 #[.pointer (some ⟨pb, 0, none⟩), .int .i64 v] w fun e w' => e = .returned (.bool (atP t v)) ∧ PaE w' B pb (tkP t v) l ∧ Below B w w' := by
  have HA := Lib.hid (at_any B pb t l v w h)
  rcases ha : atP t v with _ | _
  · have ht : tkP t v = t := by unfold tkP; rw [ha]; rfl
    rw [ht]
    rw [ha] at HA
    clear ht ha
    go_enter Tryz.func78, Tryz.ntmps78
    go_wp2_with (go_at_call 95; with_reducible refine HA.out.mono ?_; rintro e w1 ⟨rfl, hw⟩; subst hw)
    go_ret
    exact ⟨rfl, h.out, Below.refl _ _⟩
  · obtain ⟨x, u, ht, hxv⟩ := atP_cons ha
    have ht' : tkP t v = u := by unfold tkP; rw [ha, ht]; rfl
    rw [ht']
    rw [ha] at HA
    clear ht' ha
    obtain ⟨A, n, c, vn, hS⟩ := h.out
    obtain ⟨q, o, rfl, c0, c1⟩ := hS.tok ht
    have x0 := hS.bx.cell 0
    have xf := frozen_of_row _ _ 0 _ _ hS.bx
    simp at x0
    have hl := hS.len
    have hc := hS.nc
    have hn1 : 0 < n := by rw [ht] at hl; simp at hl; omega
    have hn2 : (1 : Int) ≤ (n : Int) := by omega
    have hn3 : 1 ≤ n := hn1
    have hc3 : 1 ≤ c := by omega
    have HS := Lib.hid hS
    clear hS hl hc c0 c1
    go_enter Tryz.func78, Tryz.ntmps78
    go_wp2_with (go_at_call 95; with_reducible refine HA.out.mono ?_; rintro e w1 ⟨rfl, hw⟩; subst hw)
    · go_ret
      exact ⟨rfl, HS.out.next ht rfl _ _ (by have := HS.out.nc; omega) (fun h0 => by have := HS.out.nc; omega), (Below.refl _ _).setCell (p := ⟨pb, 0, none⟩) HS.out.hB _⟩
    · go_ret
      exact ⟨rfl, HS.out.next ht rfl _ _ (by have := HS.out.nc; omega) (fun _ => rfl), (Below.refl _ _).setCell (p := ⟨pb, 0, none⟩) HS.out.hB _⟩
end Go.Proofs.YtfkljlncnfeklaaGreatDoor

/-! The parser: atAtom, character, add. -/
namespace Go.Proofs.YtfkljlncnfeklaaGreatDoor
open Go.RowKit Go.Shelf
set_option linter.unusedVariables false
set_option linter.unusedSimpArgs false
attribute [local go_sem ↓] Go.wp_at_zero Go.wp_at_succ

set_option maxRecDepth 100000 in
set_option maxHeartbeats 1000000 in
theorem atAtom_any (B pb : Nat) (t : List Tok) (l : List Pn) (w : World) (h : Hid (PaE w B pb t l)) : Calls Tryz.prog 94 #[.pointer (some ⟨pb, 0, none⟩)] w fun e w' => e = .returned (.bool (atA t)) ∧ w' = w := by
  have HA := Lib.hid (fun v => at_any B pb t l v w h)
  obtain ⟨A, n, c, vn, hS⟩ := h.out
  have x0 := hS.bx.cell 0
  simp at x0
  have hl := hS.len
  rcases t with _ | ⟨⟨r, x⟩, u⟩
  · have hn : n = 0 := by rw [← hl]; rfl
    subst hn
    clear hS hl
    have H1 : Hid (Calls Tryz.prog 95 #[.pointer (some ⟨pb, 0, none⟩), .int .i64 91] w fun e w' => e = .returned (.bool false) ∧ w' = w) := Lib.hid (HA.out 91)
    have H2 : Hid (Calls Tryz.prog 95 #[.pointer (some ⟨pb, 0, none⟩), .int .i64 40] w fun e w' => e = .returned (.bool false) ∧ w' = w) := Lib.hid (HA.out 40)
    go_enter Tryz.func94, Tryz.ntmps94
    go_wp2_with (first
      | (go_at_call 95; with_reducible refine H1.out.mono ?_; rintro e w1 ⟨rfl, hw⟩; cases hw)
      | (go_at_call 95; with_reducible refine H2.out.mono ?_; rintro e w1 ⟨rfl, hw⟩; cases hw))
    go_ret
    exact ⟨rfl, rfl⟩
  · obtain ⟨q, o, rfl, c0, c1⟩ := hS.tok rfl
    have hn : (0 : Int) < (n : Int) := by simp at hl; omega
    have hn1 : 0 < n := by omega
    clear hS hl
    by_cases a1 : atP ((r, x) :: u) 91 = true
    · have H1 := Lib.hid (HA.out 91)
      rw [a1] at H1
      have hr : atA ((r, x) :: u) = true := by
        obtain ⟨y, z, e, hy⟩ := atP_cons a1
        injection e with e _
        injection e with e1 e2
        subst e1 e2
        simp [atA]; omega
      rw [hr]
      clear hr a1 HA
      go_enter Tryz.func94, Tryz.ntmps94
      go_wp2_with (go_at_call 95; with_reducible refine H1.out.mono ?_; rintro e w1 ⟨rfl, hw⟩; cases hw)
      go_ret
      exact ⟨rfl, rfl⟩
    · have H1 := Lib.hid (HA.out 91)
      rw [show atP ((r, x) :: u) 91 = false by simpa using a1] at H1
      by_cases a2 : atP ((r, x) :: u) 40 = true
      · have H2 := Lib.hid (HA.out 40)
        rw [a2] at H2
        have hr : atA ((r, x) :: u) = true := by
          obtain ⟨y, z, e, hy⟩ := atP_cons a2
          injection e with e _
          injection e with e1 e2
          subst e1 e2
          simp [atA]; omega
        rw [hr]
        clear hr a1 a2 HA
        go_enter Tryz.func94, Tryz.ntmps94
        go_wp2_with (first
          | (go_at_call 95; with_reducible refine H1.out.mono ?_; rintro e w1 ⟨rfl, hw⟩; cases hw)
          | (go_at_call 95; with_reducible refine H2.out.mono ?_; rintro e w1 ⟨rfl, hw⟩; cases hw))
        go_ret
        exact ⟨rfl, rfl⟩
      · have H2 := Lib.hid (HA.out 40)
        rw [show atP ((r, x) :: u) 40 = false by simpa using a2] at H2
        have HR := Lib.hid (show atA ((r, x) :: u) = !r by
          cases r
          · rfl
          · simp [atP] at a1 a2
            simp [atA]
            omega)
        clear a1 a2 HA
        go_enter Tryz.func94, Tryz.ntmps94
        go_wp2_with (first
          | (go_at_call 95; with_reducible refine H1.out.mono ?_; rintro e w1 ⟨rfl, hw⟩; cases hw)
          | (go_at_call 95; with_reducible refine H2.out.mono ?_; rintro e w1 ⟨rfl, hw⟩; cases hw))
        go_ret
        exact ⟨by rw [HR.out]; rfl, rfl⟩

/-- what character reads -/
def ckP (t : List Tok) : Int × Bool × List Tok := match t with | (false, x) :: u => ((x : Int), true, u) | t => (0, false, t)
set_option maxRecDepth 100000 in
set_option maxHeartbeats 1000000 in
theorem pchar_any (B pb : Nat) (t : List Tok) (l : List Pn) (w : World) (h : Hid (PaE w B pb t l)) : Calls Tryz.prog 119 #[.pointer (some ⟨pb, 0, none⟩)] w fun e w' => e = .returned (.tuple #[.int .i64 (ckP t).1, .bool (ckP t).2.1]) ∧ PaE w' B pb (ckP t).2.2 l ∧ Below B w w' := by
  obtain ⟨A, n, c, vn, hS⟩ := h.out
  have x0 := hS.bx.cell 0
  have xf := frozen_of_row _ _ 0 _ _ hS.bx
  simp at x0
  have hl := hS.len
  rcases t with _ | ⟨⟨r, x⟩, u⟩
  · have hn : n = 0 := by rw [← hl]; rfl
    subst hn
    clear hS hl
    go_enter Tryz.func119, Tryz.ntmps119
    go_wp2
    go_ret2
    exact ⟨rfl, h.out, Below.refl _ _⟩
  · obtain ⟨q, o, rfl, c0, c1⟩ := hS.tok rfl
    have hc := hS.nc
    have hn1 : 0 < n := by simp at hl; omega
    have hn : ¬ (n : Int) = 0 := by omega
    have hn2 : (1 : Int) ≤ (n : Int) := by omega
    have hn3 : 1 ≤ n := hn1
    have hc3 : 1 ≤ c := by omega
    have HS := Lib.hid hS
    clear hS hl hc
    rcases r with _ | _
    · go_enter Tryz.func119, Tryz.ntmps119
      go_wp2
      · go_ret2
        exact ⟨rfl, HS.out.next rfl rfl _ _ (by have := HS.out.nc; omega) (fun h0 => by have := HS.out.nc; omega), (Below.refl _ _).setCell (p := ⟨pb, 0, none⟩) HS.out.hB _⟩
      · go_ret2
        exact ⟨rfl, HS.out.next rfl rfl _ _ (by have := HS.out.nc; omega) (fun _ => rfl), (Below.refl _ _).setCell (p := ⟨pb, 0, none⟩) HS.out.hB _⟩
    · go_enter Tryz.func119, Tryz.ntmps119
      go_wp2
      go_ret2
      exact ⟨rfl, h.out, Below.refl _ _⟩

theorem PaS.keep {W W' : World} {B pb n c : Nat} {A : Option Addr} {vn : Value} {t : List Tok} {l : List Pn} (h : PaS W B pb A n c vn t l) (hb : Below W.heap.size W W') : PaS W' B pb A n c vn t l :=
  ⟨h.bx.below hb, h.len, h.nc, fun h0 => by
    obtain ⟨q, o, cs, e, hx, hc⟩ := h.rest h0
    exact ⟨q, o, cs, e, hx.below hb, hc⟩, h.own.kept (row := none) ⟨hb.os, hb.tape, hb.output, hb.size, fun k hk _ => hb.block k hk⟩ (by rcases h0 : vn.ownBlock with _ | _ <;> simp), h.hB⟩
/-- a node is added -/
theorem PaS.app {w1 W4 : World} {B pb n c : Nat} {A : Option Addr} {vn vn' : Value} {t : List Tok} {l : List Pn} {x : Pn} (h : PaS w1 B pb A n c vn t l) (hown : W4.ownsRow B 42 5 vn' (l.length + 1) (pnC l ++ c5 x)) (hg : w1.grownBy W4 vn.ownBlock) : PaE (W4.setCell ⟨pb, 1, none⟩ vn') B pb t (l ++ [x]) := by
  have hne := own_ne h.own h.bx (by decide)
  have hb4 : Bx W4 pb _ _ := (hg.block pb h.bx.lt (fun e => hne e.symm)).trans h.bx
  have hne4 := own_ne hown hb4 (by decide)
  refine ⟨A, n, c, vn', heap_set W4 pb 1 vn' hb4, h.len, h.nc, fun h0 => ?_, ?_, h.hB⟩
  · obtain ⟨q, o, cs, e, hx, hc⟩ := h.rest h0
    have hq := own_ne h.own hx (by decide)
    exact ⟨q, o, cs, e, (hp_set W4 pb 1 _ (h.ne hx (by decide))).trans ((hg.block q hx.lt (fun e => hq e.symm)).trans hx), hc⟩
  · have e : pnC (l ++ [x]) = pnC l ++ c5 x := pnC_snoc l x
    rw [List.length_append, e]
    exact hown.kept (row := some pb) (grown_set W4 pb 1 _) (.inr hne4)
set_option maxRecDepth 100000 in
set_option maxHeartbeats 4000000 in
theorem padd_node (B pb : Nat) (t : List Tok) (l : List Pn) (x : Pn) (w : World) (h : Hid (PaE w B pb t l)) (hl : l.length ≤ 100000) (hBw : B ≤ w.heap.size) :
    Calls Tryz.prog 79 #[.pointer (some ⟨pb, 0, none⟩), .agg #[.int .i64 x.1, .int .i64 x.2.1, .int .i64 x.2.2.1, .int .i64 x.2.2.2.1, .int .i64 x.2.2.2.2]] w fun e w' => e = .returned (.int .i64 ((l.length : Nat) : Int)) ∧ PaE w' B pb t (l ++ [x]) ∧ Below B w w' := by
  obtain ⟨i0, hi, hz0, hz1, hz2⟩ := info_parts Tryz.infoPn
  obtain ⟨A, n, c, vn, hS⟩ := h.out
  obtain ⟨x0, x1, x2, x3, x4⟩ := x
  obtain ⟨An, cn, en, hcn, _⟩ := own_form hS.own
  subst en
  have hb0 := (Below.refl w.heap.size w).alloc (Nat.le_refl _) (.cells #[.int .i64 x0, .int .i64 x1, .int .i64 x2, .int .i64 x3, .int .i64 x4] 42)
  have hS0 := Lib.hid (hS.keep hb0)
  have HB0 := Lib.hid (hb0.mono hBw)
  have hx0 : Hid (Bx (w.alloc (.cells #[.int .i64 x0, .int .i64 x1, .int .i64 x2, .int .i64 x3, .int .i64 x4] 42)) w.heap.size #[.int .i64 x0, .int .i64 x1, .int .i64 x2, .int .i64 x3, .int .i64 x4] 42) := Lib.hid (bx_new rfl _ _)
  have hpw : pb < w.heap.size := hS.bx.lt
  have hsw : w.heap.size ≠ pb := by omega
  clear hS hb0
  dsimp only
  go_enter Tryz.func79, Tryz.ntmps79
  go_upto_region 1 with fail
  generalize World.alloc w _ = w1 at *
  have y1 := hS0.out.bx.cell 1
  have yf := frozen_of_row _ _ 1 _ _ hS0.out.bx
  have u0 := hx0.out.cell 0
  have u1 := hx0.out.cell 1
  have u2 := hx0.out.cell 2
  have u3 := hx0.out.cell 3
  have u4 := hx0.out.cell 4
  simp at y1 u0 u1 u2 u3 u4
  have hbl := hx0.out.lt
  have hpl := hS0.out.bx.lt
  have hw1 : w.heap.size ≠ w1.heap.size := by omega
  have hpn : ¬ pb = w1.heap.size := by omega
  have hbn : ¬ w.heap.size = w1.heap.size := by omega
  have hB1 : B ≤ w1.heap.size := by omega
  have HO := Lib.hid hS0.out.own
  have hvg : (Value.slice An l.length cn).ownBlock ≠ some pb := own_ne hS0.out.own hS0.out.bx (by decide)
  go_region_law ((refine step_append_lies _ (by rfl) _ _ _ (by rfl) B 42 i0 _ 5 40 Tryz.underlying25 hi hz0 hz1 hz2 rfl (by omega) (.slice An l.length cn) l.length (pnC l) (by rfl) (by first | exact HO.out.alloc_own _ | exact HO.out.alloc_own2 _) _ _ _ (c5 (x0, x1, x2, x3, x4)) (by rfl) (by rfl) (World.news_of_block (heap_alloc_new _ _)) (by simp [c5, Value.oneCell']) (by omega) (by simp only [maxLen]; omega) (by omega) (by simp; omega) _ rfl ?_; intro gn cap w4 hown hgrow hat hlt; have d1 := (hgrow.cell_far ⟨pb, 1, none⟩ (by simp; omega) (Ne.symm hvg)).trans (show _ = some (Value.slice An l.length cn) by go_simp); have e1 := (hgrow.frozen_far ⟨pb, 1, none⟩ (by simp; omega) (Ne.symm hvg)).trans (show _ = false by go_simp)))
  all_goals
    have hbx : Below w1.heap.size w1 _ := (by first | exact ((Below.refl w1.heap.size w1).alloc (Nat.le_refl _) (.cells #[.int .i64 x0, .int .i64 x1, .int .i64 x2, .int .i64 x3, .int .i64 x4] 42)).drew | exact (Below.refl w1.heap.size w1).drew.alloc (Nat.le_refl _) _)
    have hS1 := hS0.out.keep hbx
    have E5 := Lib.hid (PaS.app (x := (x0, x1, x2, x3, x4)) hS1 hown hgrow)
    have HB5 := Lib.hid (((HB0.out.trans (hbx.mono hB1)).grown hgrow (Nat.le_trans hB1 hbx.size) (fun r e => (hS1.own.lt r e).1)).setCell (p := ⟨pb, 1, none⟩) hS0.out.hB (.slice (some ⟨gn, 0, none⟩) (l.length + 1) cap))
    clear hbx hS1 hown hgrow hat hlt y1 yf u0 u1 u2 u3 u4
    go_wp2
    go_ret
    exact ⟨by congr 2, E5.out, HB5.out⟩

end Go.Proofs.YtfkljlncnfeklaaGreatDoor

/-! The parser: brackets. -/
namespace Go.Proofs.YtfkljlncnfeklaaGreatDoor
open Go.RowKit Go.Shelf
set_option linter.unusedVariables false
set_option linter.unusedSimpArgs false
attribute [local go_sem ↓] Go.wp_at_zero Go.wp_at_succ

/-- what brackets reads -/
def brT (t : List Tok) : List Tok := tkP (ckP t).2.2 45
theorem br_spec : ∀ t : List Tok, brG t = if (ckP t).2.1 = true ∧ atP (ckP t).2.2 45 = true ∧ (ckP (brT t)).2.1 = true ∧ atP (ckP (brT t)).2.2 93 = true ∧ (ckP t).1 ≤ (ckP (brT t)).1 then some (.rng (ckP t).1.toNat (ckP (brT t)).1.toNat, tkP (ckP (brT t)).2.2 93) else none
  | [] => rfl
  | (true, x) :: u => rfl
  | [(false, x)] => rfl
  | (false, x) :: (false, y) :: u => rfl
  | (false, x) :: (true, d) :: u => by
    by_cases hd : d = 45
    · subst hd
      rcases u with _ | ⟨⟨r, y⟩, _ | ⟨⟨r2, e⟩, z⟩⟩
      · rfl
      · cases r <;> rfl
      · cases r
        · cases r2
          · rfl
          · by_cases he : e = 93
            · subst he
              by_cases hl : x ≤ y
              · simp [brG, ckP, atP, tkP, brT, hl]
              · simp [brG, ckP, atP, tkP, brT, hl]
            · have : ¬ ((e : Int) = 93) := by omega
              simp [brG, ckP, atP, tkP, brT, he, this]
        · simp [brG, ckP, atP, tkP, brT]
    · have hn : ¬ ((d : Int) = 45) := by omega
      have : brG ((false, x) :: (true, d) :: u) = none := by
        unfold brG
        split
        · next h => 
          injection h with _ h
          injection h with h _
          injection h with _ h
          rw [if_neg (fun e => hd (h.trans e.1))]
        · rfl
      rw [this]
      simp [ckP, atP, hn]
theorem ckP_le (t : List Tok) : (ckP t).2.2.length ≤ t.length := by
  rcases t with _ | ⟨⟨r, x⟩, u⟩
  · exact Nat.le_refl _
  · cases r
    · exact Nat.le_succ _
    · exact Nat.le_refl _
theorem tkP_le (t : List Tok) (v : Int) : (tkP t v).length ≤ t.length := by
  unfold tkP
  split
  · rw [List.length_tail]; omega
  · exact Nat.le_refl _
theorem ckP_nat (t : List Tok) : ∃ k : Nat, (ckP t).1 = (k : Int) := by
  rcases t with _ | ⟨⟨r, x⟩, u⟩
  · exact ⟨0, rfl⟩
  · cases r
    · exact ⟨x, rfl⟩
    · exact ⟨0, rfl⟩
/-- what a parser's method does: G the rule -/
def PsR (w w' : World) (B pb : Nat) (t : List Tok) (l : List Pn) (G : Option (Rx × List Tok)) (e : Ending) : Prop :=
  ∃ (a : Int) (ok : Bool) (t' : List Tok) (l' : List Pn), e = .returned (.tuple #[.int .i64 a, .bool ok]) ∧ PaE w' B pb t' l' ∧ Below B w w' ∧ l'.length + 3 * t'.length ≤ l.length + 3 * t.length + 1 ∧
    ((ok = true ∨ atA t = true) → l'.length + 3 * t'.length + 2 ≤ l.length + 3 * t.length) ∧ (match G with | some (r, u) => ok = true ∧ t' = u ∧ l' = r.po l ∧ a = ((l'.length - 1 : Nat) : Int) | none => ok = false)
set_option maxRecDepth 100000 in
set_option maxHeartbeats 4000000 in
theorem brackets_any (B pb : Nat) (t : List Tok) (l : List Pn) (w : World) (h : Hid (PaE w B pb t l)) (hBw : Hid (B ≤ w.heap.size)) (hl : l.length ≤ 100000) :
    Calls Tryz.prog 118 #[.pointer (some ⟨pb, 0, none⟩)] w fun e w' => ∃ (ok : Bool) (t' : List Tok) (x : Pn), e = .returned (.tuple #[.int .i64 ((l.length : Nat) : Int), .bool ok]) ∧ PaE w' B pb t' (l ++ [x]) ∧ Below B w w' ∧ t'.length ≤ t.length ∧
      (match brG t with | some (r, u) => ok = true ∧ t' = u ∧ l ++ [x] = r.po l | none => ok = false) := by
  have hsp := br_spec t
  have l1 := ckP_le t
  have l2 := tkP_le (ckP t).2.2 45
  change (brT t).length ≤ _ at l2
  have l3 := ckP_le (brT t)
  have l4 := tkP_le (ckP (brT t)).2.2 93
  obtain ⟨lo, hlo⟩ := ckP_nat t
  obtain ⟨hi, hhi⟩ := ckP_nat (brT t)
  have C1 := Lib.hid (pchar_any B pb t l w h)
  have C2 := Lib.hid (fun W h => take_any B pb (ckP t).2.2 l 45 W h)
  have C3 := Lib.hid (fun W h => pchar_any B pb (brT t) l W h)
  have C4 := Lib.hid (fun W h => take_any B pb (ckP (brT t)).2.2 l 93 W h)
  change Hid (∀ W h, Calls _ _ _ _ fun e w' => _ ∧ PaE w' B pb (brT t) l ∧ _) at C2
  generalize brT t = t2 at *
  generalize ckP t = k1 at *
  generalize ckP t2 = k2 at *
  obtain ⟨a1, c1, t1⟩ := k1
  obtain ⟨a2, c2, t3⟩ := k2
  dsimp only at *
  subst hlo hhi
  generalize atP t1 45 = b2 at *
  generalize atP t3 93 = b4 at *
  generalize tkP t3 93 = t4 at *
  generalize brG t = g at *
  have HSP := Lib.hid hsp
  have HL := Lib.hid (And.intro l1 (And.intro l2 (And.intro l3 l4)))
  clear hsp l1 l2 l3 l4
  have AD : Hid (∀ (W : World) (t' : List Tok), Hid (PaE W B pb t' l) → B ≤ W.heap.size → Calls Tryz.prog 79 #[.pointer (some ⟨pb, 0, none⟩), .agg #[.int .i64 1, .int .i64 (lo : Int), .int .i64 (hi : Int), .int .i64 0, .int .i64 0]] W fun e w' => e = .returned (.int .i64 ((l.length : Nat) : Int)) ∧ PaE w' B pb t' (l ++ [(1, (lo : Int), (hi : Int), 0, 0)]) ∧ Below B W w') :=
    Lib.hid (fun W t' h hB => padd_node B pb t' l (1, (lo : Int), (hi : Int), 0, 0) W h hl hB)
  rcases c1 with _ | _
  · have hg : g = none := HSP.out.trans (if_neg (by simp))
    clear HSP
    subst hg
    go_enter Tryz.func118, Tryz.ntmps118
    go_wp2_with (first
        | (go_at_call 119; with_reducible refine C1.out.mono ?_; rintro e w1 ⟨rfl, h1, d1⟩; have H := Lib.hid h1; have D := Lib.hid d1; clear h1 d1)
        | (go_at_call 78; with_reducible refine (C2.out _ H).mono ?_; rintro e w2 ⟨rfl, h2, d2⟩; replace H := Lib.hid h2; replace D := Lib.hid (D.out.trans d2); clear h2 d2)
        | (go_at_call 119; with_reducible refine (C3.out _ H).mono ?_; rintro e w2 ⟨rfl, h2, d2⟩; replace H := Lib.hid h2; replace D := Lib.hid (D.out.trans d2); clear h2 d2)
        | (go_at_call 78; with_reducible refine (C4.out _ H).mono ?_; rintro e w2 ⟨rfl, h2, d2⟩; replace H := Lib.hid h2; replace D := Lib.hid (D.out.trans d2); clear h2 d2)
        | (go_at_call 79; with_reducible refine (AD.out _ _ H (Nat.le_trans hBw.out D.out.size)).mono ?_; rintro e w2 ⟨rfl, h2, d2⟩; replace H := Lib.hid h2; replace D := Lib.hid (D.out.trans d2); clear h2 d2))
    go_ret2
    exact ⟨_, _, _, rfl, H.out, D.out, by have := HL.out; omega, rfl⟩
  · rcases b2 with _ | _
    · have hg : g = none := HSP.out.trans (if_neg (by simp))
      clear HSP
      subst hg
      go_enter Tryz.func118, Tryz.ntmps118
      go_wp2_with (first
          | (go_at_call 119; with_reducible refine C1.out.mono ?_; rintro e w1 ⟨rfl, h1, d1⟩; have H := Lib.hid h1; have D := Lib.hid d1; clear h1 d1)
          | (go_at_call 78; with_reducible refine (C2.out _ H).mono ?_; rintro e w2 ⟨rfl, h2, d2⟩; replace H := Lib.hid h2; replace D := Lib.hid (D.out.trans d2); clear h2 d2)
          | (go_at_call 119; with_reducible refine (C3.out _ H).mono ?_; rintro e w2 ⟨rfl, h2, d2⟩; replace H := Lib.hid h2; replace D := Lib.hid (D.out.trans d2); clear h2 d2)
          | (go_at_call 78; with_reducible refine (C4.out _ H).mono ?_; rintro e w2 ⟨rfl, h2, d2⟩; replace H := Lib.hid h2; replace D := Lib.hid (D.out.trans d2); clear h2 d2)
          | (go_at_call 79; with_reducible refine (AD.out _ _ H (Nat.le_trans hBw.out D.out.size)).mono ?_; rintro e w2 ⟨rfl, h2, d2⟩; replace H := Lib.hid h2; replace D := Lib.hid (D.out.trans d2); clear h2 d2))
      go_ret2
      exact ⟨_, _, _, rfl, H.out, D.out, by have := HL.out; omega, rfl⟩
    · rcases c2 with _ | _
      · have hg : g = none := HSP.out.trans (if_neg (by simp))
        clear HSP
        subst hg
        go_enter Tryz.func118, Tryz.ntmps118
        go_wp2_with (first
            | (go_at_call 119; with_reducible refine C1.out.mono ?_; rintro e w1 ⟨rfl, h1, d1⟩; have H := Lib.hid h1; have D := Lib.hid d1; clear h1 d1)
            | (go_at_call 78; with_reducible refine (C2.out _ H).mono ?_; rintro e w2 ⟨rfl, h2, d2⟩; replace H := Lib.hid h2; replace D := Lib.hid (D.out.trans d2); clear h2 d2)
            | (go_at_call 119; with_reducible refine (C3.out _ H).mono ?_; rintro e w2 ⟨rfl, h2, d2⟩; replace H := Lib.hid h2; replace D := Lib.hid (D.out.trans d2); clear h2 d2)
            | (go_at_call 78; with_reducible refine (C4.out _ H).mono ?_; rintro e w2 ⟨rfl, h2, d2⟩; replace H := Lib.hid h2; replace D := Lib.hid (D.out.trans d2); clear h2 d2)
            | (go_at_call 79; with_reducible refine (AD.out _ _ H (Nat.le_trans hBw.out D.out.size)).mono ?_; rintro e w2 ⟨rfl, h2, d2⟩; replace H := Lib.hid h2; replace D := Lib.hid (D.out.trans d2); clear h2 d2))
        go_ret2
        exact ⟨_, _, _, rfl, H.out, D.out, by have := HL.out; omega, rfl⟩
      · rcases b4 with _ | _
        · have hg : g = none := HSP.out.trans (if_neg (by simp))
          clear HSP
          subst hg
          go_enter Tryz.func118, Tryz.ntmps118
          go_wp2_with (first
              | (go_at_call 119; with_reducible refine C1.out.mono ?_; rintro e w1 ⟨rfl, h1, d1⟩; have H := Lib.hid h1; have D := Lib.hid d1; clear h1 d1)
              | (go_at_call 78; with_reducible refine (C2.out _ H).mono ?_; rintro e w2 ⟨rfl, h2, d2⟩; replace H := Lib.hid h2; replace D := Lib.hid (D.out.trans d2); clear h2 d2)
              | (go_at_call 119; with_reducible refine (C3.out _ H).mono ?_; rintro e w2 ⟨rfl, h2, d2⟩; replace H := Lib.hid h2; replace D := Lib.hid (D.out.trans d2); clear h2 d2)
              | (go_at_call 78; with_reducible refine (C4.out _ H).mono ?_; rintro e w2 ⟨rfl, h2, d2⟩; replace H := Lib.hid h2; replace D := Lib.hid (D.out.trans d2); clear h2 d2)
              | (go_at_call 79; with_reducible refine (AD.out _ _ H (Nat.le_trans hBw.out D.out.size)).mono ?_; rintro e w2 ⟨rfl, h2, d2⟩; replace H := Lib.hid h2; replace D := Lib.hid (D.out.trans d2); clear h2 d2))
          go_ret2
          exact ⟨_, _, _, rfl, H.out, D.out, by have := HL.out; omega, rfl⟩
        · by_cases hle : lo ≤ hi
          · have hI : (lo : Int) ≤ (hi : Int) := by omega
            have hg : g = _ := HSP.out.trans (if_pos ⟨rfl, rfl, rfl, rfl, hI⟩)
            clear HSP
            subst hg
            go_enter Tryz.func118, Tryz.ntmps118
            go_wp2_with (first
                | (go_at_call 119; with_reducible refine C1.out.mono ?_; rintro e w1 ⟨rfl, h1, d1⟩; have H := Lib.hid h1; have D := Lib.hid d1; clear h1 d1)
                | (go_at_call 78; with_reducible refine (C2.out _ H).mono ?_; rintro e w2 ⟨rfl, h2, d2⟩; replace H := Lib.hid h2; replace D := Lib.hid (D.out.trans d2); clear h2 d2)
                | (go_at_call 119; with_reducible refine (C3.out _ H).mono ?_; rintro e w2 ⟨rfl, h2, d2⟩; replace H := Lib.hid h2; replace D := Lib.hid (D.out.trans d2); clear h2 d2)
                | (go_at_call 78; with_reducible refine (C4.out _ H).mono ?_; rintro e w2 ⟨rfl, h2, d2⟩; replace H := Lib.hid h2; replace D := Lib.hid (D.out.trans d2); clear h2 d2)
                | (go_at_call 79; with_reducible refine (AD.out _ _ H (Nat.le_trans hBw.out D.out.size)).mono ?_; rintro e w2 ⟨rfl, h2, d2⟩; replace H := Lib.hid h2; replace D := Lib.hid (D.out.trans d2); clear h2 d2))
            go_ret2
            exact ⟨_, _, _, rfl, H.out, D.out, by have := HL.out; omega, ⟨rfl, rfl, rfl⟩⟩
          · have hI : ¬ (lo : Int) ≤ (hi : Int) := by omega
            have hg : g = none := HSP.out.trans (if_neg (fun e => hI e.2.2.2.2))
            clear HSP
            subst hg
            go_enter Tryz.func118, Tryz.ntmps118
            go_wp2_with (first
                | (go_at_call 119; with_reducible refine C1.out.mono ?_; rintro e w1 ⟨rfl, h1, d1⟩; have H := Lib.hid h1; have D := Lib.hid d1; clear h1 d1)
                | (go_at_call 78; with_reducible refine (C2.out _ H).mono ?_; rintro e w2 ⟨rfl, h2, d2⟩; replace H := Lib.hid h2; replace D := Lib.hid (D.out.trans d2); clear h2 d2)
                | (go_at_call 119; with_reducible refine (C3.out _ H).mono ?_; rintro e w2 ⟨rfl, h2, d2⟩; replace H := Lib.hid h2; replace D := Lib.hid (D.out.trans d2); clear h2 d2)
                | (go_at_call 78; with_reducible refine (C4.out _ H).mono ?_; rintro e w2 ⟨rfl, h2, d2⟩; replace H := Lib.hid h2; replace D := Lib.hid (D.out.trans d2); clear h2 d2)
                | (go_at_call 79; with_reducible refine (AD.out _ _ H (Nat.le_trans hBw.out D.out.size)).mono ?_; rintro e w2 ⟨rfl, h2, d2⟩; replace H := Lib.hid h2; replace D := Lib.hid (D.out.trans d2); clear h2 d2))
            go_ret2
            exact ⟨_, _, _, rfl, H.out, D.out, by have := HL.out; omega, rfl⟩

end Go.Proofs.YtfkljlncnfeklaaGreatDoor

/-! The parser: atom. -/
namespace Go.Proofs.YtfkljlncnfeklaaGreatDoor
open Go.RowKit Go.Shelf
set_option linter.unusedVariables false
set_option linter.unusedSimpArgs false
attribute [local go_sem ↓] Go.wp_at_zero Go.wp_at_succ

theorem take_no (B pb : Nat) (t : List Tok) (l : List Pn) (v : Int) (w : World) (h : Hid (PaE w B pb t l)) (ha : atP t v = false) : Calls Tryz.prog 78 #[.pointer (some ⟨pb, 0, none⟩), .int .i64 v] w fun e w' => e = .returned (.bool false) ∧ PaE w' B pb t l ∧ Below B w w' :=
  (take_any B pb t l v w h).mono fun e w' ⟨a, b, c⟩ => ⟨by rw [a, ha], by rw [tkP, ha] at b; exact b, c⟩
theorem take_yes (B pb : Nat) (x : Nat) (u : List Tok) (l : List Pn) (v : Int) (w : World) (h : Hid (PaE w B pb ((true, x) :: u) l)) (hx : (x : Int) = v) : Calls Tryz.prog 78 #[.pointer (some ⟨pb, 0, none⟩), .int .i64 v] w fun e w' => e = .returned (.bool true) ∧ PaE w' B pb u l ∧ Below B w w' := by
  have ha : atP ((true, x) :: u) v = true := by simp [atP, hx]
  exact (take_any B pb _ l v w h).mono fun e w' ⟨a, b, c⟩ => ⟨by rw [a, ha], by rw [tkP, ha] at b; exact b, c⟩
/-- the rule alt, for fewer tokens than N -/
def AltC (B pb N : Nat) (G : List Tok → Option (Rx × List Tok)) : Prop := ∀ (W : World) (t : List Tok) (l : List Pn), Hid (PaE W B pb t l) → B ≤ W.heap.size → t.length < N → l.length + 3 * t.length ≤ 50000 → Calls Tryz.prog 51 #[.pointer (some ⟨pb, 0, none⟩)] W fun e w' => PsR W w' B pb t l (G t) e
theorem single_ag (b : Int) (w : World) (B : Nat) (hB : B ≤ w.heap.size) : Calls Tryz.prog 66 #[.int .i64 b] w fun e w' => e = .returned (.agg #[.int .i64 1, .int .i64 b, .int .i64 b, .int .i64 0, .int .i64 0]) ∧ Below w.heap.size w w' := single_any b w
theorem PaE.later {W W' : World} {B pb : Nat} {t : List Tok} {l : List Pn} (h : PaE W B pb t l) (hb : Below W.heap.size W W') : PaE W' B pb t l := by
  obtain ⟨A, n, c, vn, hS⟩ := h
  exact ⟨A, n, c, vn, hS.keep hb⟩
theorem add_ag (B pb : Nat) (t : List Tok) (l : List Pn) (k lo hi a b : Int) (w : World) (h : Hid (PaE w B pb t l)) (hl : l.length ≤ 100000) (hBw : B ≤ w.heap.size) :
    Calls Tryz.prog 79 #[.pointer (some ⟨pb, 0, none⟩), .agg #[.int .i64 k, .int .i64 lo, .int .i64 hi, .int .i64 a, .int .i64 b]] w fun e w' => e = .returned (.int .i64 ((l.length : Nat) : Int)) ∧ PaE w' B pb t (l ++ [(k, lo, hi, a, b)]) ∧ Below B w w' :=
  padd_node B pb t l (k, lo, hi, a, b) w h hl hBw
theorem len1 (l : List Pn) (x : Pn) : (l ++ [x]).length = l.length + 1 := by simp
set_option maxRecDepth 100000 in
set_option maxHeartbeats 4000000 in
/-- an atom that is no bracket -/
theorem atom_char (B pb : Nat) (G : List Tok → Option (Rx × List Tok)) (t : List Tok) (l : List Pn) (w : World) (h : Hid (PaE w B pb t l)) (hBw : Hid (B ≤ w.heap.size)) (hl : l.length + 3 * t.length ≤ 50000) (n1 : atP t 91 = false) (n2 : atP t 40 = false) :
    Calls Tryz.prog 106 #[.pointer (some ⟨pb, 0, none⟩)] w fun e w' => PsR w w' B pb t l (atmG G t) e := by
  have T1 := Lib.hid (take_no B pb t l 91 w h n1)
  have T2 := Lib.hid (fun W h => take_no B pb t l 40 W h n2)
  have C := Lib.hid (fun W h => pchar_any B pb t l W h)
  have HR : Hid ((atmG G t = none ∧ ckP t = (0, false, t) ∧ atA t = false) ∨ (∃ (v : Nat) (u : List Tok), t = (false, v) :: u ∧ ckP t = ((v : Int), true, u) ∧ atmG G t = some (.rng v v, u))) := Lib.hid (by
    rcases t with _ | ⟨⟨r, x⟩, u⟩
    · exact .inl ⟨rfl, rfl, rfl⟩
    · cases r
      · exact .inr ⟨x, u, rfl, rfl, rfl⟩
      · have a1 : ¬ x = 91 := fun e => by subst e; simp [atP] at n1
        have a2 : ¬ x = 40 := fun e => by subst e; simp [atP] at n2
        exact .inl ⟨by simp [atmG, a1, a2], rfl, by simp [atA, a1, a2]⟩)
  have L := Lib.hid hl
  clear n1 n2 hl
  have S := Lib.hid (fun b W (hB : B ≤ W.heap.size) => single_ag b W B hB)
  have AD := Lib.hid (fun t' b W h hB => add_ag B pb t' l 1 b b 0 0 W h (by have := L.out; omega) hB)
  rcases HR.out with ⟨g1, g2, g3⟩ | ⟨v, u, g1, g2, g3⟩
  all_goals
    rw [g2] at C
    go_enter Tryz.func106, Tryz.ntmps106
    go_wp2_with (first
      | (go_at_call 78; with_reducible refine T1.out.mono ?_; rintro e w1 ⟨rfl, h1, d1⟩; have H := Lib.hid h1; have D := Lib.hid d1; clear h1 d1)
      | (go_at_call 78; with_reducible refine (T2.out _ H).mono ?_; rintro e w2 ⟨rfl, h2, d2⟩; replace H := Lib.hid h2; replace D := Lib.hid (D.out.trans d2); clear h2 d2)
      | (go_at_call 119; with_reducible refine (C.out _ H).mono ?_; rintro e w2 ⟨rfl, h2, d2⟩; replace H := Lib.hid h2; replace D := Lib.hid (D.out.trans d2); clear h2 d2)
      | (go_at_call 66; with_reducible refine (S.out _ _ (Nat.le_trans hBw.out D.out.size)).mono ?_; rintro e w2 ⟨rfl, h2⟩; replace H := Lib.hid (H.out.later h2); replace D := Lib.hid (D.out.trans (h2.mono (Nat.le_trans hBw.out D.out.size))); clear h2)
      | (go_at_call 79; with_reducible refine (AD.out _ _ _ H (Nat.le_trans hBw.out D.out.size)).mono ?_; rintro e w2 ⟨rfl, h2, d2⟩; replace H := Lib.hid h2; replace D := Lib.hid (D.out.trans d2); clear h2 d2))
    go_ret2
  · refine ⟨_, _, _, _, rfl, H.out, D.out, by rw [len1]; omega, fun e => ?_, by rw [g1]⟩
    rw [g3] at e
    rcases e with e | e <;> cases e
  · refine ⟨_, _, _, _, rfl, H.out, D.out, by rw [len1, g1, List.length_cons]; omega, fun e => by rw [len1, g1, List.length_cons]; omega, ?_⟩
    rw [g3]
    exact ⟨rfl, rfl, rfl, by rw [len1]; simp⟩

set_option maxRecDepth 100000 in
set_option maxHeartbeats 4000000 in
/-- an atom in brackets -/
theorem atom_brackets (B pb : Nat) (G : List Tok → Option (Rx × List Tok)) (u : List Tok) (l : List Pn) (w : World) (h : Hid (PaE w B pb ((true, 91) :: u) l)) (hBw : Hid (B ≤ w.heap.size)) (hl : l.length + 3 * (u.length + 1) ≤ 50000) :
    Calls Tryz.prog 106 #[.pointer (some ⟨pb, 0, none⟩)] w fun e w' => PsR w w' B pb ((true, 91) :: u) l (atmG G ((true, 91) :: u)) e := by
  have T1 := Lib.hid (take_yes B pb 91 u l 91 w h rfl)
  have BR := Lib.hid (fun W h hB => brackets_any B pb u l W h hB (by omega))
  rw [show atmG G ((true, 91) :: u) = brG u by simp [atmG]]
  have L := Lib.hid hl
  clear hl
  generalize brG u = g at *
  go_enter Tryz.func106, Tryz.ntmps106
  go_wp2_with (first
    | (go_at_call 78; with_reducible refine T1.out.mono ?_; rintro e w1 ⟨rfl, h1, d1⟩; have H := Lib.hid h1; have D := Lib.hid d1; clear h1 d1)
    | (go_at_call 118; with_reducible refine (BR.out _ H (Lib.hid (Nat.le_trans hBw.out D.out.size))).mono ?_; rintro e w2 ⟨ok, t', x, rfl, h2, d2, z2, z3⟩; replace H := Lib.hid h2; replace D := Lib.hid (D.out.trans d2); have Z2 := Lib.hid z2; have Z3 := Lib.hid z3; clear h2 d2 z2 z3))
  go_ret2
  have q := Z2.out
  refine ⟨_, _, _, _, rfl, H.out, D.out, by rw [len1, List.length_cons]; omega, fun e => by rw [len1, List.length_cons]; omega, ?_⟩
  have z := Z3.out
  rcases g with _ | ⟨r, u'⟩
  · exact z
  · exact ⟨z.1, z.2.1, z.2.2, by rw [len1]; simp⟩
set_option maxRecDepth 100000 in
set_option maxHeartbeats 4000000 in
/-- the empty word -/
theorem atom_empty (B pb : Nat) (G : List Tok → Option (Rx × List Tok)) (u : List Tok) (l : List Pn) (w : World) (h : Hid (PaE w B pb ((true, 40) :: (true, 41) :: u) l)) (hBw : Hid (B ≤ w.heap.size)) (hl : l.length + 3 * (u.length + 2) ≤ 50000) :
    Calls Tryz.prog 106 #[.pointer (some ⟨pb, 0, none⟩)] w fun e w' => PsR w w' B pb ((true, 40) :: (true, 41) :: u) l (atmG G ((true, 40) :: (true, 41) :: u)) e := by
  have T1 := Lib.hid (take_no B pb ((true, 40) :: (true, 41) :: u) l 91 w h rfl)
  have T2 := Lib.hid (fun W h => take_yes B pb 40 ((true, 41) :: u) l 40 W h rfl)
  have T3 := Lib.hid (fun W h => take_yes B pb 41 u l 41 W h rfl)
  have AD := Lib.hid (fun W h hB => add_ag B pb u l 0 0 0 0 0 W h (by omega) hB)
  rw [show atmG G ((true, 40) :: (true, 41) :: u) = some (.emp, u) by simp [atmG, parG]]
  have L := Lib.hid hl
  clear hl
  go_enter Tryz.func106, Tryz.ntmps106
  go_wp2_with (first
    | (go_at_call 78; with_reducible refine T1.out.mono ?_; rintro e w1 ⟨rfl, h1, d1⟩; have H := Lib.hid h1; have D := Lib.hid d1; clear h1 d1)
    | (go_at_call 78; with_reducible refine (T2.out _ H).mono ?_; rintro e w2 ⟨rfl, h2, d2⟩; replace H := Lib.hid h2; replace D := Lib.hid (D.out.trans d2); clear h2 d2)
    | (go_at_call 78; with_reducible refine (T3.out _ H).mono ?_; rintro e w2 ⟨rfl, h2, d2⟩; replace H := Lib.hid h2; replace D := Lib.hid (D.out.trans d2); clear h2 d2)
    | (go_at_call 79; with_reducible refine (AD.out _ H (Nat.le_trans hBw.out D.out.size)).mono ?_; rintro e w2 ⟨rfl, h2, d2⟩; replace H := Lib.hid h2; replace D := Lib.hid (D.out.trans d2); clear h2 d2))
  go_ret2
  exact ⟨_, _, _, _, rfl, H.out, D.out, by rw [len1, List.length_cons, List.length_cons]; omega, fun e => by rw [len1, List.length_cons, List.length_cons]; omega, rfl, rfl, rfl, by rw [len1]; simp⟩
set_option maxRecDepth 100000 in
set_option maxHeartbeats 4000000 in
/-- an atom in parentheses -/
theorem atom_par (B pb N : Nat) (G : List Tok → Option (Rx × List Tok)) (IA : AltC B pb N G) (u : List Tok) (l : List Pn) (w : World) (h : Hid (PaE w B pb ((true, 40) :: u) l)) (hBw : Hid (B ≤ w.heap.size)) (hl : l.length + 3 * (u.length + 1) ≤ 50000) (hN : u.length < N) (n3 : atP u 41 = false) :
    Calls Tryz.prog 106 #[.pointer (some ⟨pb, 0, none⟩)] w fun e w' => PsR w w' B pb ((true, 40) :: u) l (atmG G ((true, 40) :: u)) e := by
  have T1 := Lib.hid (take_no B pb ((true, 40) :: u) l 91 w h rfl)
  have T2 := Lib.hid (fun W h => take_yes B pb 40 u l 40 W h rfl)
  have T3 := Lib.hid (fun W h => take_no B pb u l 41 W h n3)
  have I := Lib.hid (fun W h hB => IA W u l h hB hN (by omega))
  have T4 := Lib.hid (fun t' l' W h => take_any B pb t' l' 41 W h)
  have hG : atmG G ((true, 40) :: u) = match G u with
    | some (r, (true, c) :: t') => if c = 41 then some (r, t') else none
    | _ => none := by
    have hh : u.head? ≠ some (true, 41) := fun e => by
      rcases u with _ | ⟨x, v⟩
      · cases e
      · injection e with e
        subst e
        simp [atP] at n3
    rw [show atmG G ((true, 40) :: u) = parG G u by simp [atmG]]
    unfold parG
    rw [if_neg hh]
    rcases G u with _ | ⟨r, _ | ⟨⟨b, x⟩, v⟩⟩
    · rfl
    · rfl
    · cases b <;> rfl
  have HG := Lib.hid hG
  have L := Lib.hid hl
  clear hl hG n3 IA hN
  go_enter Tryz.func106, Tryz.ntmps106
  go_upto_region 7 with (first
    | (go_at_call 78; with_reducible refine T1.out.mono ?_; rintro e w1 ⟨rfl, h1, d1⟩; have H := Lib.hid h1; have D := Lib.hid d1; clear h1 d1)
    | (go_at_call 78; with_reducible refine (T2.out _ H).mono ?_; rintro e w2 ⟨rfl, h2, d2⟩; replace H := Lib.hid h2; replace D := Lib.hid (D.out.trans d2); clear h2 d2)
    | (go_at_call 78; with_reducible refine (T3.out _ H).mono ?_; rintro e w2 ⟨rfl, h2, d2⟩; replace H := Lib.hid h2; replace D := Lib.hid (D.out.trans d2); clear h2 d2)
    | (go_at_call 51; with_reducible refine (I.out _ H (Nat.le_trans hBw.out D.out.size)).mono ?_; intro e w2 hP; unfold PsR at hP; obtain ⟨a, ok, t1, l1, he, h2, d2, m1, m2, m3⟩ := hP; subst he; replace H := Lib.hid h2; replace D := Lib.hid (D.out.trans d2); have M1 := Lib.hid m1; have M2 := Lib.hid m2; have M3 := Lib.hid m3; clear h2 d2 m1 m2 m3))
  rcases ok with _ | _
  · have hn : G u = none := by
      have := M3.out
      rcases hg : G u with _ | ⟨r, v⟩
      · rfl
      · rw [hg] at this; cases this.1
    have HN := Lib.hid hn
    clear hn
    go_wp2
    go_ret2
    refine ⟨_, _, _, _, rfl, H.out, D.out, by have := M1.out; rw [List.length_cons]; omega, fun e => by have := M1.out; rw [List.length_cons]; omega, ?_⟩
    rw [HG.out, HN.out]
  · obtain ⟨r, hr⟩ : ∃ r, G u = some (r, t1) ∧ l1 = r.po l ∧ a = ((l1.length - 1 : Nat) : Int) := by
      have := M3.out
      rcases hg : G u with _ | ⟨r, v⟩
      · rw [hg] at this; cases this
      · rw [hg] at this; exact ⟨r, by rw [this.2.1], this.2.2⟩
    have HRR := Lib.hid hr
    clear hr
    rcases h4 : atP t1 41 with _ | _
    · have T5 := Lib.hid (fun W h => take_no B pb t1 l1 41 W h h4)
      have HN := Lib.hid (show atmG G ((true, 40) :: u) = none by
        rw [HG.out, HRR.out.1]
        rcases t1 with _ | ⟨⟨b, x⟩, v⟩
        · rfl
        · cases b
          · rfl
          · have : ¬ x = 41 := fun e => by subst e; simp [atP] at h4
            exact if_neg this)
      clear h4
      go_wp2_with (go_at_call 78; with_reducible refine (T5.out _ H).mono ?_; rintro e w2 ⟨rfl, h2, d2⟩; replace H := Lib.hid h2; replace D := Lib.hid (D.out.trans d2); clear h2 d2)
      go_ret2
      refine ⟨_, _, _, _, rfl, H.out, D.out, by have := M1.out; rw [List.length_cons]; omega, fun e => by have := M1.out; rw [List.length_cons]; omega, ?_⟩
      rw [HN.out]
    · obtain ⟨x, v, e1, e2⟩ := atP_cons h4
      have hx : x = 41 := by omega
      subst e1 hx
      have T5 := Lib.hid (fun W h => take_yes B pb 41 v l1 41 W h rfl)
      have HN := Lib.hid (show atmG G ((true, 40) :: u) = some (r, v) by rw [HG.out, HRR.out.1]; exact if_pos rfl)
      clear h4 e2
      go_wp2_with (go_at_call 78; with_reducible refine (T5.out _ H).mono ?_; rintro e w2 ⟨rfl, h2, d2⟩; replace H := Lib.hid h2; replace D := Lib.hid (D.out.trans d2); clear h2 d2)
      go_ret2
      refine ⟨_, _, _, _, rfl, H.out, D.out, by have := M1.out; rw [List.length_cons] at *; omega, fun e => by have := M1.out; rw [List.length_cons] at *; omega, ?_⟩
      rw [HN.out]
      exact ⟨rfl, rfl, HRR.out.2⟩
/-- atom -/
theorem atom_any (B pb N : Nat) (G : List Tok → Option (Rx × List Tok)) (IA : AltC B pb N G) (t : List Tok) (l : List Pn) (w : World) (h : Hid (PaE w B pb t l)) (hBw : B ≤ w.heap.size) (hN : t.length < N + 1) (hl : l.length + 3 * t.length ≤ 50000) :
    Calls Tryz.prog 106 #[.pointer (some ⟨pb, 0, none⟩)] w fun e w' => PsR w w' B pb t l (atmG G t) e := by
  rcases h1 : atP t 91 with _ | _
  · rcases h2 : atP t 40 with _ | _
    · exact atom_char B pb G t l w h (Lib.hid hBw) hl h1 h2
    · obtain ⟨x, u, rfl, e2⟩ := atP_cons h2
      have hx : x = 40 := by omega
      subst hx
      rw [List.length_cons] at hN hl
      rcases h3 : atP u 41 with _ | _
      · exact atom_par B pb N G IA u l w h (Lib.hid hBw) hl (by omega) h3
      · obtain ⟨y, v, rfl, e3⟩ := atP_cons h3
        have hy : y = 41 := by omega
        subst hy
        exact atom_empty B pb G v l w h (Lib.hid hBw) (by rw [List.length_cons] at hl; omega)
  · obtain ⟨x, u, rfl, e2⟩ := atP_cons h1
    have hx : x = 91 := by omega
    subst hx
    exact atom_brackets B pb G u l w h (Lib.hid hBw) (by rw [List.length_cons] at hl; omega)

end Go.Proofs.YtfkljlncnfeklaaGreatDoor

/-! The parser: rep. -/
namespace Go.Proofs.YtfkljlncnfeklaaGreatDoor
open Go.RowKit Go.Shelf
set_option linter.unusedVariables false
set_option linter.unusedSimpArgs false
attribute [local go_sem ↓] Go.wp_at_zero Go.wp_at_succ

/-- how many tokens are left, by the memory -/
def rsL (w : World) (pb : Nat) : Nat := match w.cell? ⟨pb, 0, none⟩ with | some (.slice _ n _) => n | _ => 0
theorem PaE.rs {w : World} {B pb : Nat} {t : List Tok} {l : List Pn} (h : PaE w B pb t l) : rsL w pb = t.length := by
  obtain ⟨A, n, c, vn, hS⟩ := h
  unfold rsL
  rw [hS.bx.cell 0, hS.len]
  rfl
/-- a rule has been read so far: of the tokens t0 the tokens t are left, the nodes l0 have become l -/
structure RuG (w0 W : World) (B pb : Nat) (t0 t : List Tok) (l0 l : List Pn) (r : Rx) : Prop where
  e : PaE W B pb t l
  d : Below B w0 W
  m : l.length + 3 * t.length + 2 ≤ l0.length + 3 * t0.length
  l : l = r.po l0
theorem po_pos (r : Rx) (l : List Pn) : 1 ≤ (r.po l).length := by rw [po_len]; have := r.nn_pos; omega
theorem strs_star' (r : Rx) (t : List Tok) : strs r ((true, 42) :: t) = strs (.rep r) t := strs_star r t
theorem strs_no' {r : Rx} {t : List Tok} (h : atP t 42 = false) : strs r t = (r, t) := strs_no (fun t' e => by subst e; simp [atP] at h)
set_option maxRecDepth 100000 in
set_option maxHeartbeats 4000000 in
theorem rep_any (B pb N : Nat) (G : List Tok → Option (Rx × List Tok)) (IA : AltC B pb N G) (t : List Tok) (l : List Pn) (w : World) (h : Hid (PaE w B pb t l)) (hBw : B ≤ w.heap.size) (hN : t.length < N + 1) (hl : l.length + 3 * t.length ≤ 50000) :
    Calls Tryz.prog 93 #[.pointer (some ⟨pb, 0, none⟩)] w fun e w' => PsR w w' B pb t l (repG G t) e := by
  have AT := Lib.hid (atom_any B pb N G IA t l w h hBw hN hl)
  have HB := Lib.hid hBw
  have L := Lib.hid hl
  clear hl hN IA hBw
  go_enter Tryz.func93, Tryz.ntmps93
  go_upto_region 2 with (go_at_call 106; with_reducible refine AT.out.mono ?_; intro e w1 hP; unfold PsR at hP; obtain ⟨a, ok, t1, l1, he, h2, d2, m1, m2, m3⟩ := hP; subst he; have H := Lib.hid h2; have D := Lib.hid d2; have M1 := Lib.hid m1; have M2 := Lib.hid m2; have M3 := Lib.hid m3; clear h2 d2 m1 m2 m3)
  rcases ok with _ | _
  · have hn : atmG G t = none := by
      have := M3.out
      rcases hg : atmG G t with _ | ⟨r, v⟩
      · rfl
      · rw [hg] at this; cases this.1
    have HN := Lib.hid (show repG G t = none by unfold repG; rw [hn]; rfl)
    clear hn AT
    go_wp2
    go_loopw [4] (fun v4 wr => v4 = .int .i64 a ∧ wr = w1) (fun v4 wr => 0)
    case atStart => exact ⟨rfl, rfl⟩
    case round =>
      obtain ⟨rfl, rfl⟩ := hrel
      go_wp2
      go_ret2
      refine ⟨_, _, _, _, rfl, H.out, D.out, M1.out, M2.out, ?_⟩
      rw [HN.out]
  · obtain ⟨r, hr⟩ : ∃ r, atmG G t = some (r, t1) ∧ l1 = r.po l ∧ a = ((l1.length - 1 : Nat) : Int) := by
      have := M3.out
      rcases hg : atmG G t with _ | ⟨r, v⟩
      · rw [hg] at this; cases this
      · rw [hg] at this; exact ⟨r, by rw [this.2.1], this.2.2⟩
    have HR := Lib.hid (show repG G t = some (strs r t1) by unfold repG; rw [hr.1]; rfl)
    have hRu : RuG w w1 B pb t t1 l l1 r := ⟨H.out, D.out, M2.out (.inl rfl), hr.2.1⟩
    obtain ⟨g1, g2, ea⟩ := hr
    clear g1 g2
    subst ea
    clear H D M1 M2 M3 AT
    go_wp2
    go_loopw [4] (fun v4 wr => ∃ (r' : Rx) (t' : List Tok) (l' : List Pn), Hid (RuG w wr B pb t t' l l' r') ∧ Hid (strs r t1 = strs r' t') ∧ v4 = .int .i64 ((l'.length - 1 : Nat) : Int)) (fun v4 wr => rsL wr pb)
    case atStart => exact ⟨r, t1, l1, Lib.hid hRu, Lib.hid rfl, rfl⟩
    case round =>
      clear hRu
      obtain ⟨r', t', l', hU, hSt, rfl⟩ := hrel
      have H := Lib.hid hU.out.e
      rcases h4 : atP t' 42 with _ | _
      · have T := Lib.hid (take_no B pb t' l' 42 wr H h4)
        have HS := Lib.hid (show repG G t = some (r', t') by rw [HR.out, hSt.out, strs_no' h4])
        clear h4
        go_wp2_with (go_at_call 78; with_reducible refine T.out.mono ?_; rintro e w2 ⟨rfl, h2, d2⟩; replace H := Lib.hid h2; have D := Lib.hid (hU.out.d.trans d2); clear h2 d2)
        go_ret2
        have q := hU.out.m
        refine ⟨_, _, _, _, rfl, H.out, D.out, by omega, fun _ => q, ?_⟩
        rw [HS.out]
        exact ⟨rfl, rfl, hU.out.l, rfl⟩
      · obtain ⟨x, v, rfl, e2⟩ := atP_cons h4
        have hx : x = 42 := by omega
        subst hx
        have T := Lib.hid (take_yes B pb 42 v l' 42 wr H rfl)
        have AD := Lib.hid (fun W h hB => add_ag B pb v l' 4 0 0 ((l'.length - 1 : Nat) : Int) 0 W h (by have := hU.out.m; have := L.out; omega) hB)
        have hrs := H.out.rs
        clear h4 e2
        go_wp2_with (first
          | (go_at_call 78; with_reducible refine T.out.mono ?_; rintro e w2 ⟨rfl, h2, d2⟩; replace H := Lib.hid h2; have D := Lib.hid (hU.out.d.trans d2); clear h2 d2)
          | (go_at_call 79; with_reducible refine (AD.out _ H (Nat.le_trans HB.out D.out.size)).mono ?_; rintro e w2 ⟨rfl, h2, d2⟩; replace H := Lib.hid h2; replace D := Lib.hid (D.out.trans d2); clear h2 d2))
        have hrs2 := H.out.rs
        go_roundw
        case rel =>
          refine ⟨.rep r', v, _, Lib.hid ⟨H.out, D.out, ?_, ?_⟩, Lib.hid (by rw [hSt.out, strs_star']), ?_⟩
          · have := hU.out.m; rw [len1]; rw [List.length_cons] at this; omega
          · rw [hU.out.l]; rfl
          · rw [len1]; simp
        case measure => rw [hrs, hrs2, List.length_cons]; omega

end Go.Proofs.YtfkljlncnfeklaaGreatDoor

/-! The parser: seq. -/
namespace Go.Proofs.YtfkljlncnfeklaaGreatDoor
open Go.RowKit Go.Shelf
set_option linter.unusedVariables false
set_option linter.unusedSimpArgs false
attribute [local go_sem ↓] Go.wp_at_zero Go.wp_at_succ

/-- a rule has failed -/
structure RuF (w0 W : World) (B pb : Nat) (t0 t : List Tok) (l0 l : List Pn) : Prop where
  e : PaE W B pb t l
  d : Below B w0 W
  m : l.length + 3 * t.length ≤ l0.length + 3 * t0.length + 1
  n : atA t0 = true → l.length + 3 * t.length + 2 ≤ l0.length + 3 * t0.length
theorem RuG.le {w0 W : World} {B pb : Nat} {t0 t : List Tok} {l0 l : List Pn} {r : Rx} (h : RuG w0 W B pb t0 t l0 l r) : t.length < t0.length ∧ l.length + 3 * t.length ≤ l0.length + 3 * t0.length := by
  have h1 := h.m
  have h2 := po_len r l0
  rw [← h.l] at h2
  have := r.nn_pos
  omega
/-- between two rounds of a rule's loop: g what the rule reads, F what is still to be read -/
def RuS (w0 W : World) (B pb : Nat) (t0 : List Tok) (l0 : List Pn) (g : Option (Rx × List Tok)) (F : Rx → List Tok → Option (Rx × List Tok)) (v4 v5 : Value) : Prop :=
  (∃ (r : Rx) (t : List Tok) (l : List Pn), Hid (RuG w0 W B pb t0 t l0 l r) ∧ Hid (g = F r t) ∧ v4 = .int .i64 ((l.length - 1 : Nat) : Int) ∧ v5 = .bool true) ∨
  (∃ (t : List Tok) (l : List Pn) (a : Int), Hid (RuF w0 W B pb t0 t l0 l) ∧ Hid (g = none) ∧ v4 = .int .i64 a ∧ v5 = .bool false)
def msR (v5 : Value) (w : World) (pb : Nat) : Nat := match v5 with | .bool true => rsL w pb + 1 | _ => 0
theorem seqL_yes {G : List Tok → Option (Rx × List Tok)} (hG : Eats G) {r r2 : Rx} {t u : List Tok} (ha : atA t = true) (h2 : repG G t = some (r2, u)) : seqL G (t.length + 1) r t = seqL G (u.length + 1) (.seq r r2) u := by
  have hlt := rep_eats hG t r2 u h2
  show (if atA t then (repG G t).bind fun p => seqL G t.length (.seq r p.1) p.2 else some (r, t)) = _
  rw [if_pos ha, h2]
  exact seqL_fuel hG _ _ _ _ hlt (Nat.lt_succ_self _)
theorem seqL_fail {G : List Tok → Option (Rx × List Tok)} {r : Rx} {t : List Tok} (ha : atA t = true) (h2 : repG G t = none) : seqL G (t.length + 1) r t = none := by
  show (if atA t then (repG G t).bind fun p => seqL G t.length (.seq r p.1) p.2 else some (r, t)) = _
  rw [if_pos ha, h2]
  rfl
theorem seqL_end {G : List Tok → Option (Rx × List Tok)} {r : Rx} {t : List Tok} (ha : atA t = false) : seqL G (t.length + 1) r t = some (r, t) := by
  show (if atA t then (repG G t).bind fun p => seqL G t.length (.seq r p.1) p.2 else some (r, t)) = _
  rw [if_neg (by rw [ha]; decide)]
theorem seqG_none {G : List Tok → Option (Rx × List Tok)} {t : List Tok} (h : repG G t = none) : seqG G t = none := by unfold seqG; rw [h]; rfl
theorem seqG_some {G : List Tok → Option (Rx × List Tok)} {t u : List Tok} {r : Rx} (h : repG G t = some (r, u)) : seqG G t = seqL G (u.length + 1) r u := by unfold seqG; rw [h]; rfl
theorem PsR.cases {w w' : World} {B pb : Nat} {t : List Tok} {l : List Pn} {g : Option (Rx × List Tok)} {e : Ending} (h : PsR w w' B pb t l g e) :
    (∃ (r : Rx) (u : List Tok) (l' : List Pn), g = some (r, u) ∧ e = .returned (.tuple #[.int .i64 ((l'.length - 1 : Nat) : Int), .bool true]) ∧ RuG w w' B pb t u l l' r) ∨ (∃ (a : Int) (u : List Tok) (l' : List Pn), g = none ∧ e = .returned (.tuple #[.int .i64 a, .bool false]) ∧ RuF w w' B pb t u l l') := by
  obtain ⟨a, ok, t', l', he, h1, h2, m1, m2, m3⟩ := h
  rcases g with _ | ⟨r, u⟩
  · have hok : ok = false := m3
    subst hok
    exact .inr ⟨a, t', l', rfl, he, h1, h2, m1, fun hh => m2 (.inr hh)⟩
  · obtain ⟨rfl, rfl, rfl, rfl⟩ := m3
    exact .inl ⟨r, t', _, rfl, he, h1, h2, m2 (.inl rfl), rfl⟩
theorem PsR.yes {w w' : World} {B pb : Nat} {t u : List Tok} {l l' : List Pn} {r : Rx} {g : Option (Rx × List Tok)} (h : RuG w w' B pb t u l l' r) (hg : g = some (r, u)) : PsR w w' B pb t l g (.returned (.tuple #[.int .i64 ((l'.length - 1 : Nat) : Int), .bool true])) :=
  ⟨_, _, u, l', rfl, h.e, h.d, by have := h.m; omega, fun _ => h.m, by rw [hg]; exact ⟨rfl, rfl, h.l, rfl⟩⟩
theorem PsR.no {w w' : World} {B pb : Nat} {t u : List Tok} {l l' : List Pn} {a : Int} {g : Option (Rx × List Tok)} (h : RuF w w' B pb t u l l') (hg : g = none) : PsR w w' B pb t l g (.returned (.tuple #[.int .i64 a, .bool false])) :=
  ⟨_, _, u, l', rfl, h.e, h.d, h.m, fun hh => by
    rcases hh with hh | hh
    · cases hh
    · exact h.n hh, by rw [hg]⟩
theorem atAtom_is (B pb : Nat) (t : List Tok) (l : List Pn) (w : World) (h : Hid (PaE w B pb t l)) {b : Bool} (hb : atA t = b) : Calls Tryz.prog 94 #[.pointer (some ⟨pb, 0, none⟩)] w fun e w' => e = .returned (.bool b) ∧ w' = w := hb ▸ atAtom_any B pb t l w h
set_option maxRecDepth 100000 in
set_option maxHeartbeats 4000000 in
theorem seq_any (B pb N : Nat) (G : List Tok → Option (Rx × List Tok)) (hG : Eats G) (IA : AltC B pb N G) (t : List Tok) (l : List Pn) (w : World) (h : Hid (PaE w B pb t l)) (hBw : B ≤ w.heap.size) (hN : t.length < N + 1) (hl : l.length + 3 * t.length ≤ 50000) :
    Calls Tryz.prog 77 #[.pointer (some ⟨pb, 0, none⟩)] w fun e w' => PsR w w' B pb t l (seqG G t) e := by
  have RP := Lib.hid (fun W t l h hB hN hl => rep_any B pb N G IA t l W h hB hN hl)
  have HB := Lib.hid hBw
  have L := Lib.hid (And.intro hN hl)
  clear hl hN IA hBw
  go_enter Tryz.func77, Tryz.ntmps77
  have R1 := Lib.hid (RP.out w t l h HB.out L.out.1 L.out.2)
  go_upto_region 2 with (go_at_call 93; with_reducible refine R1.out.mono ?_; intro e w1 hP; rcases hP.cases with ⟨r, u, l1, hg, he, hS⟩ | ⟨a, u, l1, hg, he, hS⟩ <;> subst he <;> replace hS := Lib.hid hS <;> replace hg := Lib.hid hg <;> clear hP)
  all_goals
    first
      | have S0 : RuS w w1 B pb t l (seqG G t) (fun r t => seqL G (t.length + 1) r t) (.int .i64 ((l1.length - 1 : Nat) : Int)) (.bool true) := .inl ⟨r, u, l1, hS, Lib.hid (seqG_some hg.out), rfl, rfl⟩
      | have S0 : RuS w w1 B pb t l (seqG G t) (fun r t => seqL G (t.length + 1) r t) (.int .i64 a) (.bool false) := .inr ⟨u, l1, a, hS, Lib.hid (seqG_none hg.out), rfl, rfl⟩
    clear hS hg R1
    go_wp2
    go_loopw [4, 5] (fun v4 v5 wr => Hid (RuS w wr B pb t l (seqG G t) (fun r t => seqL G (t.length + 1) r t) v4 v5)) (fun v4 v5 wr => msR v5 wr pb)
    case atStart => exact Lib.hid S0
    case round =>
      clear S0
      rcases hrel.out with ⟨r', t', l', hU, hSt, rfl, rfl⟩ | ⟨t', l', a', hU, hSt, rfl, rfl⟩
      · have H := Lib.hid hU.out.e
        have hle := hU.out.le
        rcases h4 : atA t' with _ | _
        · have T := Lib.hid (atAtom_is B pb t' l' wr H h4)
          have HS := Lib.hid (show seqG G t = some (r', t') by rw [hSt.out]; exact seqL_end h4)
          have MS := Lib.hid hU
          clear h4
          go_wp2_with (go_at_call 94; with_reducible refine T.out.mono ?_; rintro e w2 ⟨rfl, hw⟩; subst hw)
          go_ret2
          exact PsR.yes hU.out HS.out
        · have h5 := h4
          have T := Lib.hid (atAtom_is B pb t' l' wr H h4)
          have I1 := Lib.hid (fun W h hB => RP.out W t' l' h hB (by have := L.out.1; have := hU.out.le; skip; omega) (by have := L.out.2; have := hU.out.le; skip; omega))
          have hrs := H.out.rs
          go_upto_region 5 with (first
            | (go_at_call 94; with_reducible refine T.out.mono ?_; rintro e w2 ⟨rfl, hw⟩; subst hw; have D := Lib.hid hU.out.d)
            | (go_at_call 93; with_reducible refine (I1.out _ H (Nat.le_trans HB.out D.out.size)).mono ?_; intro e w3 hP; rcases hP.cases with ⟨r2, u2, l2, hg2, he, hS2⟩ | ⟨a2, u2, l2, hg2, he, hS2⟩ <;> subst he <;> replace hS2 := Lib.hid hS2 <;> replace hg2 := Lib.hid hg2 <;> clear hP))
          · have HX := Lib.hid hS2.out.e
            have D3 := Lib.hid (D.out.trans hS2.out.d)
            have AD := Lib.hid (fun W h hB => add_ag B pb u2 l2 2 0 0 ((l'.length - 1 : Nat) : Int) ((l2.length - 1 : Nat) : Int) W h (by have := hS2.out.le; have := hU.out.le; have := L.out.2; skip; omega) hB)
            go_wp2_with (go_at_call 79; with_reducible refine (AD.out _ HX (Nat.le_trans HB.out D3.out.size)).mono ?_; rintro e w4 ⟨rfl, h4', d4⟩; have H4 := Lib.hid h4'; have D4 := Lib.hid (D3.out.trans d4); clear h4' d4)
            have hrs2 := H4.out.rs
            have hU2 : RuG w w4 B pb t u2 l _ (.seq r' r2) := ⟨H4.out, D4.out, by have := hS2.out.m; have := hU.out.m; rw [len1]; skip; omega, by rw [hS2.out.l, hU.out.l]; rfl⟩
            go_roundw
            case rel => exact Lib.hid (.inl ⟨_, u2, _, Lib.hid hU2, Lib.hid (by rw [hSt.out]; exact seqL_yes hG h4 hg2.out), by rw [len1]; simp, rfl⟩)
            case measure =>
              have := hS2.out.le
              simp only [msR, hrs, hrs2]
              skip
              omega
          · have HX := Lib.hid hS2.out.e
            have D3 := Lib.hid (D.out.trans hS2.out.d)
            have AD := Lib.hid (fun W h hB => add_ag B pb u2 l2 2 0 0 ((l'.length - 1 : Nat) : Int) a2 W h (by have := hS2.out.m; have := hU.out.le; have := L.out.2; skip; omega) hB)
            go_wp2_with (go_at_call 79; with_reducible refine (AD.out _ HX (Nat.le_trans HB.out D3.out.size)).mono ?_; rintro e w4 ⟨rfl, h4', d4⟩; have H4 := Lib.hid h4'; have D4 := Lib.hid (D3.out.trans d4); clear h4' d4)
            have hF2 : RuF w w4 B pb t u2 l _ := ⟨H4.out, D4.out, by have := hS2.out.n h4; have := hU.out.m; rw [len1]; skip; omega, fun _ => by have := hS2.out.n h4; have := hU.out.m; rw [len1]; skip; omega⟩
            go_roundw
            case rel => exact Lib.hid (.inr ⟨u2, _, _, Lib.hid hF2, Lib.hid (by rw [hSt.out]; exact seqL_fail h4 hg2.out), rfl, rfl⟩)
            case measure =>
              simp only [msR, hrs]
              omega
      · go_wp2
        go_ret2
        exact PsR.no hU.out hSt.out

end Go.Proofs.YtfkljlncnfeklaaGreatDoor

/-! The parser: alt. -/
namespace Go.Proofs.YtfkljlncnfeklaaGreatDoor
open Go.RowKit Go.Shelf
set_option linter.unusedVariables false
set_option linter.unusedSimpArgs false
attribute [local go_sem ↓] Go.wp_at_zero Go.wp_at_succ

theorem altL_yes {G : List Tok → Option (Rx × List Tok)} (hG : Eats G) {r r2 : Rx} {v u : List Tok} (ha : atP ((true, 124) :: v) 124 = true) (h2 : seqG G v = some (r2, u)) : altL G (((true, 124) :: v : List Tok).length + 1) r ((true, 124) :: v) = altL G (u.length + 1) (.alt r r2) u := by
  have hlt := seq_eats hG v r2 u h2
  show (if (124 : Nat) = 124 then (seqG G v).bind fun p => altL G ((true, 124) :: v : List Tok).length (.alt r p.1) p.2 else some (r, (true, 124) :: v)) = _
  rw [if_pos rfl, h2]
  exact altL_fuel hG _ _ _ _ (show u.length < v.length + 1 by omega) (Nat.lt_succ_self _)
theorem altL_fail {G : List Tok → Option (Rx × List Tok)} {r : Rx} {v : List Tok} (ha : atP ((true, 124) :: v) 124 = true) (h2 : seqG G v = none) : altL G (((true, 124) :: v : List Tok).length + 1) r ((true, 124) :: v) = none := by
  show (if (124 : Nat) = 124 then (seqG G v).bind fun p => altL G ((true, 124) :: v : List Tok).length (.alt r p.1) p.2 else some (r, (true, 124) :: v)) = _
  rw [if_pos rfl, h2]
  rfl
theorem altL_end {G : List Tok → Option (Rx × List Tok)} {r : Rx} {t : List Tok} (ha : atP t 124 = false) : altL G (t.length + 1) r t = some (r, t) := by
  rcases t with _ | ⟨⟨b, x⟩, v⟩
  · rfl
  · cases b
    · rfl
    · have : ¬ x = 124 := fun e => by subst e; simp [atP] at ha
      exact if_neg this
theorem altG_none {G : List Tok → Option (Rx × List Tok)} {t : List Tok} (h : seqG G t = none) : altG G t = none := by unfold altG; rw [h]; rfl
theorem altG_some {G : List Tok → Option (Rx × List Tok)} {t u : List Tok} {r : Rx} (h : seqG G t = some (r, u)) : altG G t = altL G (u.length + 1) r u := by unfold altG; rw [h]; rfl
set_option maxRecDepth 100000 in
set_option maxHeartbeats 4000000 in
theorem alt_any (B pb N : Nat) (G : List Tok → Option (Rx × List Tok)) (hG : Eats G) (IA : AltC B pb N G) (t : List Tok) (l : List Pn) (w : World) (h : Hid (PaE w B pb t l)) (hBw : B ≤ w.heap.size) (hN : t.length < N + 1) (hl : l.length + 3 * t.length ≤ 50000) :
    Calls Tryz.prog 51 #[.pointer (some ⟨pb, 0, none⟩)] w fun e w' => PsR w w' B pb t l (altG G t) e := by
  have RP := Lib.hid (fun W t l h hB hN hl => seq_any B pb N G hG IA t l W h hB hN hl)
  have HB := Lib.hid hBw
  have L := Lib.hid (And.intro hN hl)
  clear hl hN IA hBw
  go_enter Tryz.func51, Tryz.ntmps51
  have R1 := Lib.hid (RP.out w t l h HB.out L.out.1 L.out.2)
  go_upto_region 2 with (go_at_call 77; with_reducible refine R1.out.mono ?_; intro e w1 hP; rcases hP.cases with ⟨r, u, l1, hg, he, hS⟩ | ⟨a, u, l1, hg, he, hS⟩ <;> subst he <;> replace hS := Lib.hid hS <;> replace hg := Lib.hid hg <;> clear hP)
  all_goals
    first
      | have S0 : RuS w w1 B pb t l (altG G t) (fun r t => altL G (t.length + 1) r t) (.int .i64 ((l1.length - 1 : Nat) : Int)) (.bool true) := .inl ⟨r, u, l1, hS, Lib.hid (altG_some hg.out), rfl, rfl⟩
      | have S0 : RuS w w1 B pb t l (altG G t) (fun r t => altL G (t.length + 1) r t) (.int .i64 a) (.bool false) := .inr ⟨u, l1, a, hS, Lib.hid (altG_none hg.out), rfl, rfl⟩
    clear hS hg R1
    go_wp2
    go_loopw [4, 5] (fun v4 v5 wr => Hid (RuS w wr B pb t l (altG G t) (fun r t => altL G (t.length + 1) r t) v4 v5)) (fun v4 v5 wr => msR v5 wr pb)
    case atStart => exact Lib.hid S0
    case round =>
      clear S0
      rcases hrel.out with ⟨r', t', l', hU, hSt, rfl, rfl⟩ | ⟨t', l', a', hU, hSt, rfl, rfl⟩
      · have H := Lib.hid hU.out.e
        have hle := hU.out.le
        rcases h4 : atP t' 124 with _ | _
        · have T := Lib.hid (take_no B pb t' l' 124 wr H h4)
          have HS := Lib.hid (show altG G t = some (r', t') by rw [hSt.out]; exact altL_end h4)
          have MS := Lib.hid hU
          clear h4
          go_wp2_with (go_at_call 78; with_reducible refine T.out.mono ?_; rintro e w2 ⟨rfl, h2, d2⟩; have hU3 : RuG w w2 B pb t t' l l' r' := ⟨h2, hU.out.d.trans d2, hU.out.m, hU.out.l⟩; replace MS := Lib.hid hU3; clear h2 d2 hU3)
          go_ret2
          exact PsR.yes MS.out HS.out
        · obtain ⟨x, v, rfl, e2⟩ := atP_cons h4
          have hx : x = 124 := by omega
          subst hx
          clear e2
          have T := Lib.hid (take_yes B pb 124 v l' 124 wr H rfl)
          have I1 := Lib.hid (fun W h hB => RP.out W v l' h hB (by have := L.out.1; have := hU.out.le; (try rw [List.length_cons] at *); omega) (by have := L.out.2; have := hU.out.le; (try rw [List.length_cons] at *); omega))
          have hrs := H.out.rs
          go_upto_region 5 with (first
            | (go_at_call 78; with_reducible refine T.out.mono ?_; rintro e w2 ⟨rfl, h2, d2⟩; replace H := Lib.hid h2; have D := Lib.hid (hU.out.d.trans d2); clear h2 d2)
            | (go_at_call 77; with_reducible refine (I1.out _ H (Nat.le_trans HB.out D.out.size)).mono ?_; intro e w3 hP; rcases hP.cases with ⟨r2, u2, l2, hg2, he, hS2⟩ | ⟨a2, u2, l2, hg2, he, hS2⟩ <;> subst he <;> replace hS2 := Lib.hid hS2 <;> replace hg2 := Lib.hid hg2 <;> clear hP))
          · have HX := Lib.hid hS2.out.e
            have D3 := Lib.hid (D.out.trans hS2.out.d)
            have AD := Lib.hid (fun W h hB => add_ag B pb u2 l2 3 0 0 ((l'.length - 1 : Nat) : Int) ((l2.length - 1 : Nat) : Int) W h (by have := hS2.out.le; have := hU.out.le; have := L.out.2; (try rw [List.length_cons] at *); omega) hB)
            go_wp2_with (go_at_call 79; with_reducible refine (AD.out _ HX (Nat.le_trans HB.out D3.out.size)).mono ?_; rintro e w4 ⟨rfl, h4', d4⟩; have H4 := Lib.hid h4'; have D4 := Lib.hid (D3.out.trans d4); clear h4' d4)
            have hrs2 := H4.out.rs
            have hU2 : RuG w w4 B pb t u2 l _ (.alt r' r2) := ⟨H4.out, D4.out, by have := hS2.out.m; have := hU.out.m; rw [len1]; (try rw [List.length_cons] at *); omega, by rw [hS2.out.l, hU.out.l]; rfl⟩
            go_roundw
            case rel => exact Lib.hid (.inl ⟨_, u2, _, Lib.hid hU2, Lib.hid (by rw [hSt.out]; exact altL_yes hG h4 hg2.out), by rw [len1]; simp, rfl⟩)
            case measure =>
              have := hS2.out.le
              simp only [msR, hrs, hrs2]
              (try rw [List.length_cons] at *)
              omega
          · have HX := Lib.hid hS2.out.e
            have D3 := Lib.hid (D.out.trans hS2.out.d)
            have AD := Lib.hid (fun W h hB => add_ag B pb u2 l2 3 0 0 ((l'.length - 1 : Nat) : Int) a2 W h (by have := hS2.out.m; have := hU.out.le; have := L.out.2; (try rw [List.length_cons] at *); omega) hB)
            go_wp2_with (go_at_call 79; with_reducible refine (AD.out _ HX (Nat.le_trans HB.out D3.out.size)).mono ?_; rintro e w4 ⟨rfl, h4', d4⟩; have H4 := Lib.hid h4'; have D4 := Lib.hid (D3.out.trans d4); clear h4' d4)
            have hF2 : RuF w w4 B pb t u2 l _ := ⟨H4.out, D4.out, by have := hS2.out.m; have := hU.out.m; rw [len1]; (try rw [List.length_cons] at *); omega, fun _ => by have := hS2.out.m; have := hU.out.m; rw [len1]; (try rw [List.length_cons] at *); omega⟩
            go_roundw
            case rel => exact Lib.hid (.inr ⟨u2, _, _, Lib.hid hF2, Lib.hid (by rw [hSt.out]; exact altL_fail h4 hg2.out), rfl, rfl⟩)
            case measure =>
              simp only [msR, hrs]
              omega
      · go_wp2
        go_ret2
        exact PsR.no hU.out hSt.out

end Go.Proofs.YtfkljlncnfeklaaGreatDoor

/-! Parse. -/
namespace Go.Proofs.YtfkljlncnfeklaaGreatDoor
open Go.RowKit Go.Shelf
set_option linter.unusedVariables false
set_option linter.unusedSimpArgs false
attribute [local go_sem ↓] Go.wp_at_zero Go.wp_at_succ

theorem altC_any (B pb : Nat) : ∀ n, AltC B pb n (pAlt n)
  | 0 => fun W t l h hB hN hl => absurd hN (Nat.not_lt_zero _)
  | n + 1 => fun W t l h hB hN hl => alt_any B pb n (pAlt n) (pAlt_eats n) (altC_any B pb n) t l W h hB hN hl
theorem tkC_at : ∀ (l : List Tok) {p i : Nat}, p < l.length → i < 2 → (tkC l)[p * 2 + i]? = (tk2 (l.getD p (false, 0)))[i]?
  | [], p, i, h, _ => by simp at h
  | x :: l, 0, i, _, hi => by
    show (tk2 x ++ tkC l)[0 * 2 + i]? = _
    rw [List.getElem?_append_left (by simp [tk2]; omega), Nat.zero_mul, Nat.zero_add]
    rfl
  | x :: l, p + 1, i, h, hi => by
    show (tk2 x ++ tkC l)[(p + 1) * 2 + i]? = _
    rw [List.getElem?_append_right (by simp [tk2]; omega)]
    have : (p + 1) * 2 + i - (tk2 x).length = p * 2 + i := by simp [tk2]; omega
    rw [this, tkC_at l (by simpa using h) hi]
    rfl
/-- the new parser -/
theorem pa_new {W : World} {B pb n c : Nat} {A : Option Addr} {ts : List Tok} (h : W.ownsRow B 129 2 (.slice A n c) ts.length (tkC ts)) (hn : n = ts.length) (hc : n ≤ c) (hx : Bx W pb #[.slice A n c, .slice none 0 0] 90) (hB : B ≤ pb) : PaE W B pb ts [] := by
  subst hn
  refine ⟨A, _, c, .slice none 0 0, hx, rfl, hc, fun h0 => ?_, ⟨rfl, .inl ⟨rfl, rfl⟩⟩, hB⟩
  rcases h.2 with ⟨e, h1⟩ | ⟨q, cap, cur, e, hq, hb, h1, h2, h3, h4⟩
  · omega
  · injection e with e1 e2 e3
    refine ⟨q, 0, cur, e1, hb, fun j hj => ?_⟩
    have hg : ∀ k, k < ts.length * 2 → cur[k]? = (tkC ts)[k]? := fun k hk => by
      rw [← h4, List.getElem?_take_of_lt hk, Array.getElem?_toList]
    have a0 := hg (j * 2 + 0) (by omega)
    have a1 := hg (j * 2 + 1) (by omega)
    rw [tkC_at ts hj (by omega)] at a0 a1
    exact ⟨by rw [Nat.zero_add]; exact a0, by rw [Nat.zero_add]; exact a1⟩
theorem TkR.some {w W : World} {s : ByteArray} {v : Value} {ok : Bool} {ts : List Tok} (h : TkR w W s v ok) (ht : tkS 0 s.data.toList = some ts) : ok = true ∧ W.ownsRow w.heap.size 129 2 v ts.length (tkC ts) ∧ ts.length ≤ s.size := by
  unfold TkR at h
  rw [ht] at h
  exact h
theorem TkR.none {w W : World} {s : ByteArray} {v : Value} {ok : Bool} (h : TkR w W s v ok) (ht : tkS 0 s.data.toList = none) : ok = false ∧ v = .slice none 0 0 := by
  unfold TkR at h
  rw [ht] at h
  exact h
/-- what Parse returns -/
def ParR (w W : World) (s : List UInt8) (e : Ending) : Prop := ∃ v, e = .returned (.tuple #[v, .int .i64 (prsP s).2]) ∧ W.ownsRow w.heap.size 42 5 v (prsP s).1.length (pnC (prsP s).1) ∧ Below w.heap.size w W
theorem ParR.err {w W : World} {s : List UInt8} {k : Int} (h : prsP s = ([], k)) (hb : Below w.heap.size w W) : ParR w W s (.returned (.tuple #[.slice none 0 0, .int .i64 k])) :=
  ⟨.slice none 0 0, by rw [h], by rw [h]; exact ⟨rfl, .inl ⟨rfl, rfl⟩⟩, hb⟩
set_option maxRecDepth 100000 in
set_option maxHeartbeats 4000000 in
theorem parse_any (s : ByteArray) (w : World) : Calls Tryz.prog 23 #[.string s] w fun e w' => ParR w w' s.data.toList e := by
  have hsz : s.data.toList.length = s.size := by rw [Array.length_toList]; rfl
  by_cases h8 : 8192 < s.size
  · have hp : prsP s.data.toList = ([], 2) := by unfold prsP; rw [if_pos (by rw [hsz]; exact h8)]
    have i8 : (8192 : Int) < (s.size : Int) := by omega
    have HP := Lib.hid hp
    clear hp hsz
    go_enter Tryz.func23, Tryz.ntmps23
    go_wp2
    go_ret2
    exact ParR.err HP.out (Below.refl _ _)
  · have i8 : ¬ (8192 : Int) < (s.size : Int) := by omega
    have TK := Lib.hid (tokens_any s w (by omega))
    rcases ht : tkS 0 s.data.toList with _ | ts
    · have hp : prsP s.data.toList = ([], 40) := by unfold prsP; rw [if_neg (by rw [hsz]; exact h8), ht]
      have HP := Lib.hid hp
      have HT := Lib.hid ht
      clear hp hsz ht
      go_enter Tryz.func23, Tryz.ntmps23
      go_wp2_with (go_at_call 50; with_reducible refine TK.out.mono ?_; rintro e w1 ⟨v, ok, rfl, hk, hb⟩; obtain ⟨rfl, rfl⟩ := hk.none HT.out; have D := Lib.hid hb; clear hk hb)
      go_ret2
      exact ParR.err HP.out D.out
    · have hp : prsP s.data.toList = (match pAlt (4 * ts.length + 4) ts with
        | some (r, []) => if 512 < r.nn then (([] : List Pn), (2 : Int)) else (r.po [], 0)
        | _ => ([], 40)) := by unfold prsP; rw [if_neg (by rw [hsz]; exact h8), ht]; rfl
      have HP := Lib.hid hp
      have HT := Lib.hid ht
      clear hp hsz ht
      go_enter Tryz.func23, Tryz.ntmps23
      go_upto_region 7 with (go_at_call 50; with_reducible refine TK.out.mono ?_; rintro e w1 ⟨v, ok, rfl, hk, hb⟩; obtain ⟨hok, hown, hle⟩ := hk.some HT.out; subst hok; obtain ⟨A, c, ev, hc, _⟩ := own_form hown; subst ev; have D := Lib.hid hb; have HO := Lib.hid hown; have HLE := Lib.hid hle; clear hk hb hown hle)
      have E2 : ∀ W, w1.alloc (.cells #[.slice A ts.length c, .slice none 0 0] 90) = W → Hid (PaE W w.heap.size w1.heap.size ts [] ∧ Below w.heap.size w W) := by
        rintro W rfl
        exact Lib.hid ⟨pa_new (HO.out.alloc _) rfl hc (bx_new rfl _ _) D.out.size, D.out.alloc D.out.size _⟩
      generalize hW : World.alloc w1 _ = w2
      have F2 := E2 _ hW
      clear hW E2
      have HC := Lib.hid (altC_any w.heap.size w1.heap.size (4 * ts.length + 4) w2 ts [] (Lib.hid F2.out.1) F2.out.2.size (by omega) (by have := HLE.out; rw [List.length_nil]; omega))
      go_upto_region 8 with (go_at_call 51; with_reducible refine HC.out.mono ?_; intro e w3 hP; rcases hP.cases with ⟨r, u, l1, hg, he, hS⟩ | ⟨a, u, l1, hg, he, hS⟩ <;> subst he <;> replace hS := Lib.hid hS <;> replace hg := Lib.hid hg <;> clear hP)
      · obtain ⟨A', n', c', vn, hPS⟩ := hS.out.e
        obtain ⟨An, cn, en, _, _⟩ := own_form hPS.own
        subst en
        have y0 := hPS.bx.cell 0
        have y1 := hPS.bx.cell 1
        simp at y0 y1
        have hn := hPS.len
        have DD := Lib.hid (F2.out.2.trans hS.out.d)
        have HOW := Lib.hid hPS.own
        have hll : l1.length = r.nn := by rw [hS.out.l, po_len]; simp
        have HLL := Lib.hid hll
        have HL1 := Lib.hid hS.out.l
        clear hPS hll
        rcases u with _ | ⟨x, u⟩
        · have hn0 : n' = 0 := by rw [← hn]; rfl
          subst hn0
          clear hn
          by_cases h5 : 512 < r.nn
          · have i5 : (512 : Int) < (l1.length : Int) := by have := HLL.out; omega
            have HQ := Lib.hid (show prsP s.data.toList = ([], 2) by rw [HP.out, hg.out]; exact if_pos h5)
            clear h5
            go_wp2
            go_ret2
            exact ParR.err HQ.out DD.out
          · have i5 : ¬ (512 : Int) < (l1.length : Int) := by have := HLL.out; omega
            have HQ := Lib.hid (show prsP s.data.toList = (l1, 0) by rw [HP.out, hg.out, HL1.out]; exact if_neg h5)
            clear h5
            go_wp2
            go_ret2
            exact ⟨_, by rw [HQ.out]; rfl, by rw [HQ.out]; exact HOW.out, DD.out⟩
        · have hn0 : (0 : Int) < (n' : Int) := by rw [← hn, List.length_cons]; omega
          have HQ := Lib.hid (show prsP s.data.toList = ([], 40) by rw [HP.out, hg.out])
          clear hn
          go_wp2
          go_ret2
          exact ParR.err HQ.out DD.out
      · have HQ := Lib.hid (show prsP s.data.toList = ([], 40) by rw [HP.out, hg.out])
        have DD := Lib.hid (F2.out.2.trans hS.out.d)
        go_wp2
        go_ret2
        exact ParR.err HQ.out DD.out

end Go.Proofs.YtfkljlncnfeklaaGreatDoor
