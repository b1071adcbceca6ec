/-
  Plain mathematics and contracts of package diagram, several texts in one: XPt, XSq, XMa, XPc, XEn, XInv, XSw.
-/
import Derived.Test.YtfkljlncnfeklaaGreatDoorPb
import Derived.Test.YtfkljlncnfeklaaGreatDoorPc
import Derived.Test.YtfkljlncnfeklaaGreatDoorPa
import Derived.Deep.DeepCutAuto
import Derived.RegionTactic
import Derived.Deep.RegionLaw

/-! Parts in memory. -/
namespace Go.Proofs.YtfkljlncnfeklaaGreatDoor
open Go.RowKit
set_option linter.unusedVariables false
set_option linter.unusedSimpArgs false
attribute [local go_sem ↓] Go.wp_at_zero Go.wp_at_succ

def u64v (n : Nat) : Value := .int .u64 ((n : Nat) : Int)
/-- word i -/
def gW (ws : List Nat) (i : Nat) : Nat := ws.getD i 0
/-- the cells of a part -/
def ptC (e : Bool) (f l : List Nat) : Array Value := #[.bool e, .int .u64 ((gW f 0 : Nat) : Int), .int .u64 ((gW f 1 : Nat) : Int), .int .u64 ((gW f 2 : Nat) : Int), .int .u64 ((gW f 3 : Nat) : Int), .int .u64 ((gW l 0 : Nat) : Int), .int .u64 ((gW l 1 : Nat) : Int), .int .u64 ((gW l 2 : Nat) : Int), .int .u64 ((gW l 3 : Nat) : Int)]
/-- a part in a block of its own -/
def PtB (w : World) (g : Nat) (e : Bool) (f l : List Nat) : Prop := w.heap[g]? = some (.cells (ptC e f l) 97 (0, 0))
section
variable {w w' : World} {g : Nat} {e : Bool} {f l : List Nat}
theorem PtB.lt (h : PtB w g e f l) : g < w.heap.size := by
  rcases Nat.lt_or_ge g w.heap.size with c | c
  · exact c
  · rw [PtB, Array.getElem?_eq_none c] at h; cases h
theorem PtB.keep (h : PtB w g e f l) (hk : w'.heap[g]? = w.heap[g]?) : PtB w' g e f l := hk.trans h
theorem PtB.below (h : PtB w g e f l) (hb : Below w.heap.size w w') : PtB w' g e f l := h.keep (hb.block g h.lt)
theorem PtB.cell (h : PtB w g e f l) (i : Nat) : w.cell? ⟨g, i, none⟩ = (ptC e f l)[i]? := cell_of_row _ _ i _ _ _ h
theorem PtB.frz (h : PtB w g e f l) (i : Nat) : w.frozen? ⟨g, i, none⟩ = false := frozen_of_row _ _ i _ _ h
theorem PtB.pl1 (h : PtB w g e f l) : Pl w g 1 f := fun i hi => ⟨by
  rw [h.cell]
  rcases (show i = 0 ∨ i = 1 ∨ i = 2 ∨ i = 3 by omega) with rfl | rfl | rfl | rfl <;> rfl, h.frz _⟩
theorem PtB.pl5 (h : PtB w g e f l) : Pl w g 5 l := fun i hi => ⟨by
  rw [h.cell]
  rcases (show i = 0 ∨ i = 1 ∨ i = 2 ∨ i = 3 by omega) with rfl | rfl | rfl | rfl <;> rfl, h.frz _⟩
theorem PtB.cells (h : PtB w g e f l) : w.cell? ⟨g, 0, none⟩ = some (.bool e) ∧ w.cell? ⟨g, 1, none⟩ = some (.int .u64 ((gW f 0 : Nat) : Int)) ∧ w.cell? ⟨g, 2, none⟩ = some (.int .u64 ((gW f 1 : Nat) : Int)) ∧ w.cell? ⟨g, 3, none⟩ = some (.int .u64 ((gW f 2 : Nat) : Int)) ∧ w.cell? ⟨g, 4, none⟩ = some (.int .u64 ((gW f 3 : Nat) : Int)) ∧ w.cell? ⟨g, 5, none⟩ = some (.int .u64 ((gW l 0 : Nat) : Int)) ∧ w.cell? ⟨g, 6, none⟩ = some (.int .u64 ((gW l 1 : Nat) : Int)) ∧ w.cell? ⟨g, 7, none⟩ = some (.int .u64 ((gW l 2 : Nat) : Int)) ∧ w.cell? ⟨g, 8, none⟩ = some (.int .u64 ((gW l 3 : Nat) : Int)) := by
  refine ⟨?_, ?_, ?_, ?_, ?_, ?_, ?_, ?_, ?_⟩ <;> rw [h.cell] <;> rfl
theorem stP4_heap (w : World) (g o : Nat) (ws : List Nat) {k : Nat} (hk : k ≠ g) : ∀ n, (stP4 w g o ws n).heap[k]? = w.heap[k]?
  | 0 => rfl
  | n + 1 => (Below.heap_setCell _ _ _ _ (fun e => hk e)).trans (stP4_heap w g o ws hk n)
theorem heap_set (w : World) (g i : Nat) (v : Value) {cs : Array Value} {T : Nat} (h : w.heap[g]? = some (.cells cs T (0, 0))) : (w.setCell ⟨g, i, none⟩ v).heap[g]? = some (.cells (cs.setIfInBounds i v) T (0, 0)) := by
  simp [World.setCell, Array.getElem?_modify, h]
theorem PtB.st1 (h : PtB w g e f l) (ws : List Nat) : PtB (stP4 w g 1 ws 4) g e ws l := by
  have h1 := heap_set _ g (1 + 0) (.int .u64 ((gW ws 0 : Nat) : Int)) h
  have h2 := heap_set _ g (1 + 1) (.int .u64 ((gW ws 1 : Nat) : Int)) h1
  have h3 := heap_set _ g (1 + 2) (.int .u64 ((gW ws 2 : Nat) : Int)) h2
  have h4 := heap_set _ g (1 + 3) (.int .u64 ((gW ws 3 : Nat) : Int)) h3
  exact h4
theorem PtB.st5 (h : PtB w g e f l) (ws : List Nat) : PtB (stP4 w g 5 ws 4) g e f ws := by
  have h1 := heap_set _ g (5 + 0) (.int .u64 ((gW ws 0 : Nat) : Int)) h
  have h2 := heap_set _ g (5 + 1) (.int .u64 ((gW ws 1 : Nat) : Int)) h1
  have h3 := heap_set _ g (5 + 2) (.int .u64 ((gW ws 2 : Nat) : Int)) h2
  have h4 := heap_set _ g (5 + 3) (.int .u64 ((gW ws 3 : Nat) : Int)) h3
  exact h4
theorem PtB.emp (h : PtB w g e f l) (b : Bool) : PtB (w.setCell ⟨g, 0, none⟩ (.bool b)) g b f l := heap_set _ g 0 _ h
theorem PtB.drew (h : PtB w g e f l) (n : Nat) : PtB (w.drewN n) g e f l := h
/-- a call of unite on one of the parts' sets -/
theorem uni1_pt {h : Nat} {e' : Bool} {f' l' : List Nat} (p : Hid (PtB w g e f l)) (q : Hid (PtB w h e' f' l')) (hf : W4 f) (hf' : W4 f') (hne : h ≠ g) :
    Calls Tryz.prog 81 #[.pointer (some ⟨g, 1, none⟩), .pointer (some ⟨h, 1, none⟩)] w fun en w' => en = .returned (.tuple #[]) ∧ PtB w' g e (uniW f f') l ∧ (∀ k, k ≠ g → w'.heap[k]? = w.heap[k]?) ∧ w'.heap.size = w.heap.size ∧ (∀ B, B ≤ g → Below B w w') :=
  (unite_any g 1 h 1 f f' w hf hf' (Lib.hid p.out.pl1) (Lib.hid q.out.pl1) hne).mono fun en w' ⟨he, n, hw⟩ => by
    subst hw
    exact ⟨he, (p.out.st1 _).drew n, fun k hk => stP4_heap w g 1 _ hk 4, stP4_size _ _ _ _ 4, fun B hB => below_drewN (stP4_below (Below.refl B w) hB 1 _ 4) n⟩
theorem uni5_pt {h : Nat} {e' : Bool} {f' l' : List Nat} (p : Hid (PtB w g e f l)) (q : Hid (PtB w h e' f' l')) (hl : W4 l) (hl' : W4 l') (hne : h ≠ g) :
    Calls Tryz.prog 81 #[.pointer (some ⟨g, 5, none⟩), .pointer (some ⟨h, 5, none⟩)] w fun en w' => en = .returned (.tuple #[]) ∧ PtB w' g e f (uniW l l') ∧ (∀ k, k ≠ g → w'.heap[k]? = w.heap[k]?) ∧ w'.heap.size = w.heap.size ∧ (∀ B, B ≤ g → Below B w w') :=
  (unite_any g 5 h 5 l l' w hl hl' (Lib.hid p.out.pl5) (Lib.hid q.out.pl5) hne).mono fun en w' ⟨he, n, hw⟩ => by
    subst hw
    exact ⟨he, (p.out.st5 _).drew n, fun k hk => stP4_heap w g 5 _ hk 4, stP4_size _ _ _ _ 4, fun B hB => below_drewN (stP4_below (Below.refl B w) hB 5 _ 4) n⟩
end


end Go.Proofs.YtfkljlncnfeklaaGreatDoor

/-! Parts are joined: sequence and alternative. -/
namespace Go.Proofs.YtfkljlncnfeklaaGreatDoor
open Go.RowKit
set_option linter.unusedVariables false
set_option linter.unusedSimpArgs false
attribute [local go_sem ↓] Go.wp_at_zero Go.wp_at_succ

theorem pt_new {w : World} {e : Bool} {f l : List Nat} : PtB (w.alloc (.cells (ptC e f l) 97)) w.heap.size e f l := heap_alloc_new w _
theorem pt_new' {w : World} {H : Nat} (hH : w.heap.size = H) {e : Bool} {f l : List Nat} : PtB (w.alloc (.cells (ptC e f l) 97)) H e f l := by subst hH; exact pt_new
theorem pt_al {w : World} {g : Nat} {e : Bool} {f l : List Nat} (h : PtB w g e f l) (o : Obj) : PtB (w.alloc o) g e f l := h.below ((Below.refl _ _).alloc (Nat.le_refl _) _)
theorem two_parts {w : World} (ea eb : Bool) (fa la fb lb : List Nat) : ∀ (W : World), ((w.alloc (.cells (ptC ea fa la) 97)).alloc (.cells (ptC eb fb lb) 97)).alloc (.cells (ptC false noW noW) 97) = W →
    Hid (PtB W w.heap.size ea fa la) ∧ Hid (PtB W (w.heap.size + 1) eb fb lb) ∧ Hid (PtB W (w.heap.size + 1 + 1) false noW noW) ∧ Hid (Below w.heap.size w W) := by
  rintro W rfl
  exact ⟨Lib.hid (pt_al (pt_al pt_new _) _), Lib.hid (pt_al (pt_new' (by simp)) _), Lib.hid (pt_new' (by simp)), Lib.hid (((Below.refl w.heap.size w).alloc (Nat.le_refl _) _).alloc (by simp) _ |>.alloc (by simp; omega) _)⟩
theorem results_cell1 {fn : Func} {p : Tmp} {ty : TypeId} (h : fn.results = #[.cell p ty]) (tmps : Array Value) (P : Program) (w : World) :
    (results fn tmps).run P w = ((asAddr (tmps.getD p undef)).run P w).andThen fun a w₁ => (loadVar ty a).run P w₁ := by
  simp only [results, h]
  simp [Sem.run_bind, Result.andThen]
theorem hp_set (w : World) (g i : Nat) (v : Value) {k : Nat} (h : k ≠ g) : (w.setCell ⟨g, i, none⟩ v).heap[k]? = w.heap[k]? := Below.heap_setCell _ _ _ _ (fun e => h e)
theorem pt_keep {w w' : World} {g h : Nat} {e : Bool} {f l : List Nat} (p : Hid (PtB w h e f l)) (hk : ∀ k, k ≠ g → w'.heap[k]? = w.heap[k]?) (hn : h ≠ g) : Hid (PtB w' h e f l) := Lib.hid (p.out.keep (hk h hn))
theorem pt_b9 {w w' : World} (b : Below w.heap.size w w') (v0 v1 v2 v3 v4 v5 v6 v7 v8 : Value) : Below w.heap.size w (((((((((w'.setCell ⟨w.heap.size + 1 + 1, 0, none⟩ v0).setCell ⟨w.heap.size + 1 + 1, 1, none⟩ v1).setCell ⟨w.heap.size + 1 + 1, 2, none⟩ v2).setCell ⟨w.heap.size + 1 + 1, 3, none⟩ v3).setCell ⟨w.heap.size + 1 + 1, 4, none⟩ v4).setCell ⟨w.heap.size + 1 + 1, 5, none⟩ v5).setCell ⟨w.heap.size + 1 + 1, 6, none⟩ v6).setCell ⟨w.heap.size + 1 + 1, 7, none⟩ v7).setCell ⟨w.heap.size + 1 + 1, 8, none⟩ v8) := by
  have h : w.heap.size ≤ w.heap.size + 1 + 1 := by omega
  exact ((((((((b.setCell (p := ⟨_, _, none⟩) h _).setCell (p := ⟨_, _, none⟩) h _).setCell (p := ⟨_, _, none⟩) h _).setCell (p := ⟨_, _, none⟩) h _).setCell (p := ⟨_, _, none⟩) h _).setCell (p := ⟨_, _, none⟩) h _).setCell (p := ⟨_, _, none⟩) h _).setCell (p := ⟨_, _, none⟩) h _).setCell (p := ⟨_, _, none⟩) h _
set_option maxHeartbeats 2000000 in
theorem alternative_any (ea eb : Bool) (fa la fb lb : List Nat) (w : World) (h1 : W4 fa) (h2 : W4 la) (h3 : W4 fb) (h4 : W4 lb) :
    Calls Tryz.prog 56 #[.agg (ptC ea fa la), .agg (ptC eb fb lb)] w fun e w' => e = .returned (.agg (ptC (ea || eb) (uniW fa fb) (uniW la lb))) ∧ Below w.heap.size w w' := by
  have A0 := two_parts (w := w) ea eb fa la fb lb
  have hne : w.heap.size + 1 ≠ w.heap.size := by omega
  have hn2 : w.heap.size + 1 + 1 ≠ w.heap.size := by omega
  unfold ptC
  go_enter Tryz.func56, Tryz.ntmps56
  go_upto_region 1 with fail
  generalize hwa : World.alloc (World.alloc (World.alloc w _) _) _ = wa
  obtain ⟨a0, b0, r0, B0⟩ := A0 _ hwa
  clear hwa A0
  obtain ⟨x0, _⟩ := a0.out.cells
  have xf := a0.out.frz 0
  obtain ⟨y0, _⟩ := b0.out.cells
  have a1 := Lib.hid (a0.out.emp (ea || eb))
  have b1 := Lib.hid (b0.out.keep (hp_set wa w.heap.size 0 (.bool (ea || eb)) hne))
  have r1 := Lib.hid (r0.out.keep (hp_set wa w.heap.size 0 (.bool (ea || eb)) hn2))
  have B1 := Lib.hid (B0.out.setCell (p := ⟨w.heap.size, 0, none⟩) (Nat.le_refl _) (.bool (ea || eb)))
  rcases ea with _ | _ <;> rcases eb with _ | _
  all_goals
    simp only [Bool.or_self, Bool.or_true, Bool.true_or, Bool.or_false, Bool.false_or] at a1 b1 r1 B1 ⊢
    go_upto_region 2 with fail
    generalize World.setCell wa _ _ = w1 at *
    clear a0 b0 r0 B0 x0 xf y0
    go_upto_region 3 with (go_at_call 81; with_reducible refine (uni1_pt a1 b1 h1 h3 hne).mono ?_; rintro e w2 ⟨rfl, a2, k2, s2, B2⟩)
    replace a2 := Lib.hid a2
    have b2 := pt_keep b1 k2 hne
    have r2 := pt_keep r1 k2 hn2
    replace B2 := Lib.hid (B1.out.trans (B2 _ (Nat.le_refl _)))
    clear a1 b1 r1 B1 k2 s2
    go_upto_region 4 with (go_at_call 81; with_reducible refine (uni5_pt a2 b2 h2 h4 hne).mono ?_; rintro e w3 ⟨rfl, a3, k3, s3, B3⟩)
    replace a3 := Lib.hid a3
    have r3 := pt_keep r2 k3 hn2
    replace B3 := Lib.hid (B2.out.trans (B3 _ (Nat.le_refl _)))
    clear a2 b2 r2 B2 k3 s3
    have B4 := fun v0 v1 v2 v3 v4 v5 v6 v7 v8 => pt_b9 B3.out v0 v1 v2 v3 v4 v5 v6 v7 v8
    obtain ⟨c0, c1, c2, c3, c4, c5, c6, c7, c8⟩ := a3.out.cells
    obtain ⟨d0, d1, d2, d3, d4, d5, d6, d7, d8⟩ := r3.out.cells
    have f0 := r3.out.frz
    clear a3 r3 B3
    go_wp2
    refine bodyPost_ret (v := .agg (ptC _ (uniW fa fb) (uniW la lb))) ?_ rfl ⟨rfl, B4 _ _ _ _ _ _ _ _ _⟩
    rw [results_cell1 rfl]
    unfold ptC
    go_simp

theorem pt_x {w wa : World} {e : Bool} {f l : List Nat} {H : Nat} (hH : wa.heap.size = H) : ∀ W, wa.alloc (.cells (ptC e f l) 97) = W → Hid (PtB W H e f l) ∧ Hid (Below wa.heap.size wa W) := by
  rintro W rfl
  exact ⟨Lib.hid (pt_new' hH), Lib.hid ((Below.refl _ _).alloc (Nat.le_refl _) _)⟩
theorem pt_bel {w w' : World} {g : Nat} {e : Bool} {f l : List Nat} (p : Hid (PtB w g e f l)) (b : Hid (Below w.heap.size w w')) : Hid (PtB w' g e f l) := Lib.hid (p.out.below b.out)
set_option maxHeartbeats 4000000 in
theorem sequence_any (ea eb : Bool) (fa la fb lb : List Nat) (w : World) (h1 : W4 fa) (h2 : W4 la) (h3 : W4 fb) (h4 : W4 lb) :
    Calls Tryz.prog 55 #[.agg (ptC ea fa la), .agg (ptC eb fb lb)] w fun e w' => e = .returned (.agg (ptC (ea && eb) (if ea then uniW fa fb else fa) (if eb then uniW lb la else lb))) ∧ Below w.heap.size w w' := by
  have A0 := two_parts (w := w) ea eb fa la fb lb
  have hna : w.heap.size ≠ w.heap.size + 1 + 1 + 1 := by omega
  have hnb : w.heap.size + 1 ≠ w.heap.size + 1 + 1 + 1 := by omega
  have hnr : w.heap.size + 1 + 1 ≠ w.heap.size + 1 + 1 + 1 := by omega
  have hle : w.heap.size ≤ w.heap.size + 1 + 1 + 1 := by omega
  unfold ptC
  go_enter Tryz.func55, Tryz.ntmps55
  go_upto_region 1 with fail
  generalize hwa : World.alloc (World.alloc (World.alloc w _) _) _ = wa
  obtain ⟨a0, b0, r0, B0⟩ := A0 _ hwa
  have hs : wa.heap.size = w.heap.size + 1 + 1 + 1 := by rw [← hwa]; simp
  have X0 := pt_x (w := w) (e := ea && eb) (f := fa) (l := lb) hs
  clear hwa A0
  obtain ⟨x0, x1, x2, x3, x4, _⟩ := a0.out.cells
  obtain ⟨y0, _, _, _, _, y5, y6, y7, y8⟩ := b0.out.cells
  rcases ea with _ | _ <;> rcases eb with _ | _
  · simp only [Bool.and_self, Bool.and_true, Bool.true_and, Bool.and_false, Bool.false_and] at X0
    skip
    go_upto_region 2 with fail
    try simp only [hs]
    generalize hw1 : World.alloc wa _ = w1
    obtain ⟨q1, B1⟩ := X0 _ hw1
    have a1 := pt_bel a0 B1
    have b1 := pt_bel b0 B1
    have r1 := pt_bel r0 B1
    replace B1 := Lib.hid (B0.out.trans (B1.out.mono B0.out.size))
    clear hw1 X0 a0 b0 r0 B0 x0 x1 x2 x3 x4 y0 y5 y6 y7 y8
    obtain ⟨x0, _⟩ := a1.out.cells
    obtain ⟨y0, _⟩ := b1.out.cells
    have B4 := fun v0 v1 v2 v3 v4 v5 v6 v7 v8 => pt_b9 B1.out v0 v1 v2 v3 v4 v5 v6 v7 v8
    obtain ⟨c0, c1, c2, c3, c4, c5, c6, c7, c8⟩ := q1.out.cells
    obtain ⟨d0, d1, d2, d3, d4, d5, d6, d7, d8⟩ := r1.out.cells
    have f0 := r1.out.frz
    clear q1 r1 B1
    go_wp2
    refine bodyPost_ret (v := .agg (ptC _ fa lb)) ?_ rfl ⟨rfl, B4 _ _ _ _ _ _ _ _ _⟩
    rw [results_cell1 rfl]
    unfold ptC
    go_simp
  · simp only [Bool.and_self, Bool.and_true, Bool.true_and, Bool.and_false, Bool.false_and] at X0
    skip
    go_upto_region 2 with fail
    try simp only [hs]
    generalize hw1 : World.alloc wa _ = w1
    obtain ⟨q1, B1⟩ := X0 _ hw1
    have a1 := pt_bel a0 B1
    have b1 := pt_bel b0 B1
    have r1 := pt_bel r0 B1
    replace B1 := Lib.hid (B0.out.trans (B1.out.mono B0.out.size))
    clear hw1 X0 a0 b0 r0 B0 x0 x1 x2 x3 x4 y0 y5 y6 y7 y8
    obtain ⟨x0, _⟩ := a1.out.cells
    obtain ⟨y0, _⟩ := b1.out.cells
    go_upto_region 6 with (go_at_call 81; with_reducible refine (uni5_pt q1 a1 h4 h2 hna).mono ?_; rintro e w2 ⟨rfl, q2, k2, s2, B2⟩)
    replace q2 := Lib.hid q2
    have r2 := pt_keep r1 k2 hnr
    replace B2 := Lib.hid (B1.out.trans (B2 _ hle))
    clear q1 a1 b1 r1 B1 k2 s2 y0
    have B4 := fun v0 v1 v2 v3 v4 v5 v6 v7 v8 => pt_b9 B2.out v0 v1 v2 v3 v4 v5 v6 v7 v8
    obtain ⟨c0, c1, c2, c3, c4, c5, c6, c7, c8⟩ := q2.out.cells
    obtain ⟨d0, d1, d2, d3, d4, d5, d6, d7, d8⟩ := r2.out.cells
    have f0 := r2.out.frz
    clear q2 r2 B2
    go_wp2
    refine bodyPost_ret (v := .agg (ptC _ fa (uniW lb la))) ?_ rfl ⟨rfl, B4 _ _ _ _ _ _ _ _ _⟩
    rw [results_cell1 rfl]
    unfold ptC
    go_simp
  · simp only [Bool.and_self, Bool.and_true, Bool.true_and, Bool.and_false, Bool.false_and] at X0
    skip
    go_upto_region 2 with fail
    try simp only [hs]
    generalize hw1 : World.alloc wa _ = w1
    obtain ⟨q1, B1⟩ := X0 _ hw1
    have a1 := pt_bel a0 B1
    have b1 := pt_bel b0 B1
    have r1 := pt_bel r0 B1
    replace B1 := Lib.hid (B0.out.trans (B1.out.mono B0.out.size))
    clear hw1 X0 a0 b0 r0 B0 x0 x1 x2 x3 x4 y0 y5 y6 y7 y8
    obtain ⟨x0, _⟩ := a1.out.cells
    obtain ⟨y0, _⟩ := b1.out.cells
    go_upto_region 4 with (go_at_call 81; with_reducible refine (uni1_pt q1 b1 h1 h3 hnb).mono ?_; rintro e w2 ⟨rfl, q2, k2, s2, B2⟩)
    replace q2 := Lib.hid q2
    have a2 := pt_keep a1 k2 hna
    have b2 := pt_keep b1 k2 hnb
    have r2 := pt_keep r1 k2 hnr
    replace B2 := Lib.hid (B1.out.trans (B2 _ hle))
    clear q1 a1 b1 r1 B1 k2 s2 x0 y0
    obtain ⟨y0, _⟩ := b2.out.cells
    have B4 := fun v0 v1 v2 v3 v4 v5 v6 v7 v8 => pt_b9 B2.out v0 v1 v2 v3 v4 v5 v6 v7 v8
    obtain ⟨c0, c1, c2, c3, c4, c5, c6, c7, c8⟩ := q2.out.cells
    obtain ⟨d0, d1, d2, d3, d4, d5, d6, d7, d8⟩ := r2.out.cells
    have f0 := r2.out.frz
    clear q2 r2 B2
    go_wp2
    refine bodyPost_ret (v := .agg (ptC _ (uniW fa fb) lb)) ?_ rfl ⟨rfl, B4 _ _ _ _ _ _ _ _ _⟩
    rw [results_cell1 rfl]
    unfold ptC
    go_simp
  · simp only [Bool.and_self, Bool.and_true, Bool.true_and, Bool.and_false, Bool.false_and] at X0
    skip
    go_upto_region 2 with fail
    try simp only [hs]
    generalize hw1 : World.alloc wa _ = w1
    obtain ⟨q1, B1⟩ := X0 _ hw1
    have a1 := pt_bel a0 B1
    have b1 := pt_bel b0 B1
    have r1 := pt_bel r0 B1
    replace B1 := Lib.hid (B0.out.trans (B1.out.mono B0.out.size))
    clear hw1 X0 a0 b0 r0 B0 x0 x1 x2 x3 x4 y0 y5 y6 y7 y8
    obtain ⟨x0, _⟩ := a1.out.cells
    obtain ⟨y0, _⟩ := b1.out.cells
    go_upto_region 4 with (go_at_call 81; with_reducible refine (uni1_pt q1 b1 h1 h3 hnb).mono ?_; rintro e w2 ⟨rfl, q2, k2, s2, B2⟩)
    replace q2 := Lib.hid q2
    have a2 := pt_keep a1 k2 hna
    have b2 := pt_keep b1 k2 hnb
    have r2 := pt_keep r1 k2 hnr
    replace B2 := Lib.hid (B1.out.trans (B2 _ hle))
    clear q1 a1 b1 r1 B1 k2 s2 x0 y0
    obtain ⟨y0, _⟩ := b2.out.cells
    go_upto_region 6 with (go_at_call 81; with_reducible refine (uni5_pt q2 a2 h4 h2 hna).mono ?_; rintro e w3 ⟨rfl, q3, k3, s3, B3⟩)
    replace q3 := Lib.hid q3
    have r3 := pt_keep r2 k3 hnr
    replace B3 := Lib.hid (B2.out.trans (B3 _ hle))
    clear q2 a2 b2 r2 B2 k3 s3 y0
    have B4 := fun v0 v1 v2 v3 v4 v5 v6 v7 v8 => pt_b9 B3.out v0 v1 v2 v3 v4 v5 v6 v7 v8
    obtain ⟨c0, c1, c2, c3, c4, c5, c6, c7, c8⟩ := q3.out.cells
    obtain ⟨d0, d1, d2, d3, d4, d5, d6, d7, d8⟩ := r3.out.cells
    have f0 := r3.out.frz
    clear q3 r3 B3
    go_wp2
    refine bodyPost_ret (v := .agg (ptC _ (uniW fa fb) (uniW lb la))) ?_ rfl ⟨rfl, B4 _ _ _ _ _ _ _ _ _⟩
    rw [results_cell1 rfl]
    unfold ptC
    go_simp

end Go.Proofs.YtfkljlncnfeklaaGreatDoor

/-! The machine in memory: two rows, of nodes and of sets. (Written by magen.py.) -/
namespace Go.Proofs.YtfkljlncnfeklaaGreatDoor
open Go.RowKit
set_option linter.unusedVariables false
set_option linter.unusedSimpArgs false

def pnC (l : List Pn) : List Value := l.flatMap c5
theorem pnC_snoc (l : List Pn) (x : Pn) : pnC (l ++ [x]) = pnC l ++ c5 x := by unfold pnC; simp
theorem grown_set (w : World) (gN i : Nat) (y : Value) : w.grownBy (w.setCell ⟨gN, i, none⟩ y) (some gN) :=
  ⟨rfl, rfl, rfl, by simp [World.setCell], fun k _ hne => Below.heap_setCell _ _ _ _ (fun e => hne (by rw [e]))⟩
theorem Tryz.infoPn : (Tryz.prog.info? 42).map (fun i => (i.zero, i.size, i.bytes)) = some (some (.agg #[.int .i64 0, .int .i64 0, .int .i64 0, .int .i64 0, .int .i64 0]), 5, 40) := by kernel_rfl
theorem Tryz.infoPl : (Tryz.prog.info? 95).map (fun i => (i.zero, i.size, i.bytes)) = some (some (.agg #[.int .u64 0, .int .u64 0, .int .u64 0, .int .u64 0]), 4, 32) := by kernel_rfl
/-- only blocks of S may have changed -/
structure Chg (S : Nat → Prop) (w w' : World) : Prop where
  os : w'.os = w.os
  tape : w'.tape = w.tape
  output : w'.output = w.output
  size : w.heap.size ≤ w'.heap.size
  block : ∀ k, k < w.heap.size → ¬ S k → w'.heap[k]? = w.heap[k]?
section
variable {S T : Nat → Prop} {a b c w w' : World} {B : Nat}
theorem Chg.refl (S : Nat → Prop) (w : World) : Chg S w w := ⟨rfl, rfl, rfl, Nat.le_refl _, fun _ _ _ => rfl⟩
theorem Chg.trans (h : Chg S a b) (k : Chg T b c) (ht : ∀ j, j < a.heap.size → T j → S j) : Chg S a c :=
  ⟨k.os.trans h.os, k.tape.trans h.tape, k.output.trans h.output, Nat.le_trans h.size k.size, fun j hj hn => (k.block j (Nat.lt_of_lt_of_le hj h.size) (fun e => hn (ht j hj e))).trans (h.block j hj hn)⟩
theorem Chg.mono (h : Chg S a b) (ht : ∀ j, j < a.heap.size → S j → T j) : Chg T a b := (Chg.refl T a).trans h ht
theorem Chg.of_below (h : Below a.heap.size a b) : Chg S a b := ⟨h.os, h.tape, h.output, h.size, fun j hj _ => h.block j hj⟩
theorem Chg.of_grown {row : Option Nat} (h : a.grownBy b row) (hr : ∀ k, row = some k → S k) : Chg S a b :=
  ⟨h.os, h.tape, h.output, h.size, fun j hj hn => h.block j hj (fun e => hn (hr j e.symm))⟩
theorem Chg.below (h : Chg S a b) (hB : B ≤ a.heap.size) (hS : ∀ k, k < B → ¬ S k) : Below B a b := ⟨h.os, h.tape, h.output, h.size, fun j hj => h.block j (Nat.lt_of_lt_of_le hj hB) (hS j hj)⟩
theorem Chg.set (h : Chg S a b) {p : Addr} (hp : S p.block) (u : Value) : Chg S a (b.setCell p u) :=
  h.trans ⟨rfl, rfl, rfl, by simp [World.setCell], fun k _ hk => Below.heap_setCell _ _ _ _ (fun e => hk e)⟩ (T := fun k => k = p.block) (fun j _ e => e ▸ hp)
theorem Chg.cell (h : Chg S a b) {p : Addr} (hp : p.block < a.heap.size) (hn : ¬ S p.block) : b.cell? p = a.cell? p := World.cell?_of_block (h.block _ hp hn)
theorem Chg.frozen (h : Chg S a b) {p : Addr} (hp : p.block < a.heap.size) (hn : ¬ S p.block) : b.frozen? p = a.frozen? p := World.frozen?_of_block (h.block _ hp hn)
theorem Chg.drew (h : Chg S a b) : Chg S a b.drew := ⟨h.os, h.tape, h.output, h.size, h.block⟩
theorem Chg.alloc (h : Chg S a b) (o : Obj) : Chg S a (b.alloc o) := h.trans (Chg.of_below (S := S) ((Below.refl _ _).alloc (Nat.le_refl _) o)) (fun _ _ e => e)
end

theorem _root_.Go.World.ownsRow.alloc_own {w : World} {base e size n : Nat} {v : Value} {xs : List Value} (h : w.ownsRow base e size v n xs) (o : Obj) : (w.drew.alloc o).ownsRow base e size v n xs :=
  h.drew.kept (World.grownBy_alloc _ o none) (by rcases v.ownBlock with _ | _ <;> simp)

theorem _root_.Go.World.ownsRow.alloc_own2 {w : World} {base e size n : Nat} {v : Value} {xs : List Value} (h : w.ownsRow base e size v n xs) (o : Obj) : (w.alloc o).drew.ownsRow base e size v n xs :=
  (h.kept (World.grownBy_alloc w o none) (by rcases v.ownBlock with _ | _ <;> simp)).drew

/-- the two lists at cells o and o + 1 of block g -/
structure MaM (w : World) (B g o : Nat) (vf vs : Value) (l : List Pn) (z : List (List Nat)) : Prop where
  cf : w.cell? ⟨g, o, none⟩ = some vf
  cs : w.cell? ⟨g, o + 1, none⟩ = some vs
  ff : w.frozen? ⟨g, o, none⟩ = false
  fs : w.frozen? ⟨g, o + 1, none⟩ = false
  rf : w.ownsRow B 42 5 vf l.length (pnC l)
  rs : w.ownsRow B 95 4 vs z.length (flC z)
  gf : vf.ownBlock ≠ some g
  gs : vs.ownBlock ≠ some g
  gb : B ≤ g
theorem own_types {w : World} {B e e' size size' n n' : Nat} {v v' : Value} {xs xs' : List Value} (h : w.ownsRow B e size v n xs) (h' : w.ownsRow B e' size' v' n' xs') (he : e ≠ e') {k : Nat} (hk : v.ownBlock = some k) : v'.ownBlock ≠ some k := by
  intro hk'
  rcases h.2 with ⟨rfl, _⟩ | ⟨q, cap, cur, rfl, _, hq, _⟩
  · cases hk
  · rcases h'.2 with ⟨rfl, _⟩ | ⟨q', cap', cur', rfl, _, hq', _⟩
    · cases hk'
    · have e1 : q = k := Option.some.inj hk
      have e2 : q' = k := Option.some.inj hk'
      subst e1; subst e2
      rw [hq] at hq'
      injection hq' with hq'
      injection hq' with _ h2
      exact he h2
theorem own_form {w : World} {B e size n : Nat} {v : Value} {xs : List Value} (h : w.ownsRow B e size v n xs) : ∃ A c, v = .slice A n c ∧ n ≤ c ∧ ∀ k, v.ownBlock = some k → A = some ⟨k, 0, none⟩ := by
  rcases h.2 with ⟨rfl, rfl⟩ | ⟨q, cap, cur, rfl, _, hq, hc, _⟩
  · exact ⟨none, 0, rfl, Nat.le_refl _, fun k hk => by cases hk⟩
  · exact ⟨some ⟨q, 0, none⟩, cap, rfl, hc, fun k hk => by have : q = k := Option.some.inj hk; rw [this]⟩
theorem MaM.lt {w : World} {B g o : Nat} {vf vs : Value} {l : List Pn} {z : List (List Nat)} (h : MaM w B g o vf vs l z) : g < w.heap.size := block_lt_of_cell (a := ⟨g, o, none⟩) h.cf
theorem MaM.keep {w w' : World} {B g o : Nat} {vf vs : Value} {l : List Pn} {z : List (List Nat)} (h : MaM w B g o vf vs l z) (hb : Below w.heap.size w w') : MaM w' B g o vf vs l z := by
  have hg := h.lt
  refine ⟨(hb.cell (p := ⟨g, o, none⟩) hg).trans h.cf, (hb.cell (p := ⟨g, o + 1, none⟩) hg).trans h.cs, (hb.frozen (p := ⟨g, o, none⟩) hg).trans h.ff, (hb.frozen (p := ⟨g, o + 1, none⟩) hg).trans h.fs, ?_, ?_, h.gf, h.gs, h.gb⟩
  · exact h.rf.kept (row := none) ⟨hb.os, hb.tape, hb.output, hb.size, fun k hk _ => hb.block k hk⟩ (by rcases h0 : vf.ownBlock with _ | _ <;> simp)
  · exact h.rs.kept (row := none) ⟨hb.os, hb.tape, hb.output, hb.size, fun k hk _ => hb.block k hk⟩ (by rcases h0 : vs.ownBlock with _ | _ <;> simp)
/-- from w to w' the lists became l and z; nothing else but they has changed -/
structure MaE (w w' : World) (B g o : Nat) (vf vs vf' vs' : Value) (l : List Pn) (z : List (List Nat)) : Prop where
  m : MaM w' B g o vf' vs' l z
  chg : Chg (fun k => k = g ∨ vf.ownBlock = some k ∨ vs.ownBlock = some k) w w'
  cel : ∀ j, j ≠ o → j ≠ o + 1 → w'.cell? ⟨g, j, none⟩ = w.cell? ⟨g, j, none⟩
  frz : ∀ j, w'.frozen? ⟨g, j, none⟩ = w.frozen? ⟨g, j, none⟩
  obf : ∀ k, vf'.ownBlock = some k → vf.ownBlock = some k ∨ w.heap.size ≤ k
  obs : ∀ k, vs'.ownBlock = some k → vs.ownBlock = some k ∨ w.heap.size ≤ k
section
variable {w w' w1 w2 w3 : World} {B g o : Nat} {vf vs vf1 vs1 vf2 vs2 : Value} {l l1 l2 : List Pn} {z z1 z2 : List (List Nat)}
theorem MaE.trans (h : MaE w w1 B g o vf vs vf1 vs1 l1 z1) (k : MaE w1 w2 B g o vf1 vs1 vf2 vs2 l2 z2) : MaE w w2 B g o vf vs vf2 vs2 l2 z2 := by
  refine ⟨k.m, h.chg.trans k.chg ?_, fun j h1 h2 => (k.cel j h1 h2).trans (h.cel j h1 h2), fun j => (k.frz j).trans (h.frz j), ?_, ?_⟩
  · rintro j hj (e | e | e)
    · exact .inl e
    · rcases h.obf j e with q | q
      · exact .inr (.inl q)
      · omega
    · rcases h.obs j e with q | q
      · exact .inr (.inr q)
      · omega
  · intro j e
    rcases k.obf j e with q | q
    · exact h.obf j q
    · have := h.chg.size; exact .inr (by omega)
  · intro j e
    rcases k.obs j e with q | q
    · exact h.obs j q
    · have := h.chg.size; exact .inr (by omega)
theorem MaE.same (h : MaM w B g o vf vs l z) (hb : Below w.heap.size w w') : MaE w w' B g o vf vs vf vs l z :=
  ⟨h.keep hb, Chg.of_below hb, fun j _ _ => hb.cell (p := ⟨g, j, none⟩) h.lt, fun j => hb.frozen (p := ⟨g, j, none⟩) h.lt, fun _ e => .inl e, fun _ e => .inl e⟩
theorem MaE.keep (h : MaE w w1 B g o vf vs vf1 vs1 l z) (hb : Below w1.heap.size w1 w2) : MaE w w2 B g o vf vs vf1 vs1 l z := h.trans (MaE.same h.m hb)
/-- the nodes have grown, and are stored -/
theorem MaM.node {gn cap : Nat} {x : Pn} (h : MaM w B g o vf vs l z) (hb : Below w.heap.size w w2) (hown : w3.ownsRow B 42 5 (.slice (some ⟨gn, 0, none⟩) (l.length + 1) cap) (l.length + 1) (pnC l ++ c5 x)) (hgr : w2.grownBy w3 vf.ownBlock) (hat : vf.ownBlock = some gn ∨ w.heap.size ≤ gn) :
    MaE w (w3.setCell ⟨g, o, none⟩ (.slice (some ⟨gn, 0, none⟩) (l.length + 1) cap)) B g o vf vs (.slice (some ⟨gn, 0, none⟩) (l.length + 1) cap) vs (l ++ [x]) z := by
  have hg := h.lt
  have hgn : gn ≠ g := by
    rcases hat with e | e
    · exact fun e2 => h.gf (by rw [e, e2])
    · omega
  have far : ∀ a : Addr, a.block < w.heap.size → some a.block ≠ vf.ownBlock → w3.cell? a = w.cell? a ∧ w3.frozen? a = w.frozen? a := fun a ha hne =>
    ⟨(hgr.cell_far a (Nat.lt_of_lt_of_le ha hb.size) hne).trans (hb.cell ha), (hgr.frozen_far a (Nat.lt_of_lt_of_le ha hb.size) hne).trans (hb.frozen ha)⟩
  have fg := fun j => far ⟨g, j, none⟩ hg (Ne.symm h.gf)
  have hset := grown_set w3 g o (.slice (some ⟨gn, 0, none⟩) (l.length + 1) cap)
  refine ⟨⟨World.cell?_setCell_same _ _ _ ((fg o).1.trans h.cf), ?_, ?_, ?_, ?_, ?_, ?_, h.gs, h.gb⟩, ?_, ?_, ?_, ?_, fun _ e => .inl e⟩
  · rw [cell_set_off _ _ _ _ _ (by omega)]; exact (fg (o + 1)).1.trans h.cs
  · rw [World.frozen?_setCell]; exact (fg o).2.trans h.ff
  · rw [World.frozen?_setCell]; exact (fg (o + 1)).2.trans h.fs
  · rw [pnC_snoc, List.length_append]
    exact hown.kept hset (.inr (by simp [Value.ownBlock, hgn]))
  · have hr2 : w2.ownsRow B 95 4 vs z.length (flC z) := h.rs.kept (row := none) ⟨hb.os, hb.tape, hb.output, hb.size, fun k hk _ => hb.block k hk⟩ (by rcases h0 : vs.ownBlock with _ | _ <;> simp)
    have hr3 : w3.ownsRow B 95 4 vs z.length (flC z) := by
      rcases e : vf.ownBlock with _ | k
      · exact hr2.kept (row := none) (by rw [← e]; exact hgr) (by rcases h0 : vs.ownBlock with _ | _ <;> simp)
      · exact hr2.kept hgr (.inr (by rw [e]; exact own_types h.rf h.rs (by decide) e))
    exact hr3.kept hset (.inr h.gs)
  · simp [Value.ownBlock, hgn]
  · exact Chg.set ((Chg.of_below hb).trans (T := fun k => vf.ownBlock = some k) (Chg.of_grown hgr (fun k e => e)) (fun j _ e => .inr (.inl e))) (.inl rfl) _
  · intro j h1 _
    rw [cell_set_off _ _ _ _ _ h1]; exact (fg j).1
  · intro j
    rw [World.frozen?_setCell]; exact (fg j).2
  · intro k e
    simp [Value.ownBlock] at e
    subst e
    exact hat
/-- the sizes have grown, and are stored -/
theorem MaM.size {gn cap : Nat} {n : List Nat} (h : MaM w B g o vf vs l z) (hb : Below w.heap.size w w2) (hown : w3.ownsRow B 95 4 (.slice (some ⟨gn, 0, none⟩) (z.length + 1) cap) (z.length + 1) (flC z ++ w4C n)) (hgr : w2.grownBy w3 vs.ownBlock) (hat : vs.ownBlock = some gn ∨ w.heap.size ≤ gn) :
    MaE w (w3.setCell ⟨g, o + 1, none⟩ (.slice (some ⟨gn, 0, none⟩) (z.length + 1) cap)) B g o vf vs vf (.slice (some ⟨gn, 0, none⟩) (z.length + 1) cap) l (z ++ [n]) := by
  have hg := h.lt
  have hgn : gn ≠ g := by
    rcases hat with e | e
    · exact fun e2 => h.gs (by rw [e, e2])
    · omega
  have far : ∀ a : Addr, a.block < w.heap.size → some a.block ≠ vs.ownBlock → w3.cell? a = w.cell? a ∧ w3.frozen? a = w.frozen? a := fun a ha hne =>
    ⟨(hgr.cell_far a (Nat.lt_of_lt_of_le ha hb.size) hne).trans (hb.cell ha), (hgr.frozen_far a (Nat.lt_of_lt_of_le ha hb.size) hne).trans (hb.frozen ha)⟩
  have fg := fun j => far ⟨g, j, none⟩ hg (Ne.symm h.gs)
  have hset := grown_set w3 g (o + 1) (.slice (some ⟨gn, 0, none⟩) (z.length + 1) cap)
  refine ⟨⟨?_, World.cell?_setCell_same _ _ _ ((fg (o + 1)).1.trans h.cs), ?_, ?_, ?_, ?_, h.gf, ?_, h.gb⟩, ?_, ?_, ?_, fun _ e => .inl e, ?_⟩
  · rw [cell_set_off _ _ _ _ _ (by omega)]; exact (fg o).1.trans h.cf
  · rw [World.frozen?_setCell]; exact (fg o).2.trans h.ff
  · rw [World.frozen?_setCell]; exact (fg (o + 1)).2.trans h.fs
  · have hr2 : w2.ownsRow B 42 5 vf l.length (pnC l) := h.rf.kept (row := none) ⟨hb.os, hb.tape, hb.output, hb.size, fun k hk _ => hb.block k hk⟩ (by rcases h0 : vf.ownBlock with _ | _ <;> simp)
    have hr3 : w3.ownsRow B 42 5 vf l.length (pnC l) := by
      rcases e : vs.ownBlock with _ | k
      · exact hr2.kept (row := none) (by rw [← e]; exact hgr) (by rcases h0 : vf.ownBlock with _ | _ <;> simp)
      · exact hr2.kept hgr (.inr (by rw [e]; exact own_types h.rs h.rf (by decide) e))
    exact hr3.kept hset (.inr h.gf)
  · rw [flC_snoc, List.length_append]
    exact hown.kept hset (.inr (by simp [Value.ownBlock, hgn]))
  · simp [Value.ownBlock, hgn]
  · exact Chg.set ((Chg.of_below hb).trans (T := fun k => vs.ownBlock = some k) (Chg.of_grown hgr (fun k e => e)) (fun j _ e => .inr (.inr e))) (.inl rfl) _
  · intro j _ h1
    rw [cell_set_off _ _ _ _ _ h1]; exact (fg j).1
  · intro j
    rw [World.frozen?_setCell]; exact (fg j).2
  · intro k e
    simp [Value.ownBlock] at e
    subst e
    exact hat
end


end Go.Proofs.YtfkljlncnfeklaaGreatDoor

/-! A place more: machine.place. -/
namespace Go.Proofs.YtfkljlncnfeklaaGreatDoor
open Go.RowKit
set_option linter.unusedVariables false
set_option linter.unusedSimpArgs false
attribute [local go_sem ↓] Go.wp_at_zero Go.wp_at_succ

theorem w4_form {f : List Nat} (h : W4 f) : ∃ a b c d, f = [a, b, c, d] := by
  have := h.1
  rcases f with _ | ⟨a, _ | ⟨b, _ | ⟨c, _ | ⟨d, _ | ⟨e, t⟩⟩⟩⟩⟩ <;> simp at this
  exact ⟨a, b, c, d, rfl⟩
theorem PtB.add1 {w : World} {g : Nat} {e : Bool} {f l : List Nat} (h : PtB w g e f l) (hf : W4 f) {p : Nat} (hp : p < 256) : PtB (w.setCell ⟨g, 1 + p / 64, none⟩ (.int .u64 ((f.getD (p / 64) 0 ||| 2 ^ (p % 64) : Nat) : Int))) g e (addW f p) l := by
  have h1 := heap_set _ g (1 + p / 64) (.int .u64 ((f.getD (p / 64) 0 ||| 2 ^ (p % 64) : Nat) : Int)) h
  refine h1.trans ?_
  obtain ⟨a, b, c, d, rfl⟩ := w4_form hf
  unfold addW
  generalize 2 ^ (p % 64) = y
  rcases (show p / 64 = 0 ∨ p / 64 = 1 ∨ p / 64 = 2 ∨ p / 64 = 3 by omega) with q | q | q | q <;> rw [q] <;> rfl
theorem add_pt {w : World} {g : Nat} {e : Bool} {f l : List Nat} (h : Hid (PtB w g e f l)) (hf : W4 f) {p : Nat} (hp : p < 256) :
    Calls Tryz.prog 67 #[.pointer (some ⟨g, 1, none⟩), .int .i64 (p : Int)] w fun en w' => en = .returned (.tuple #[]) ∧ PtB w' g e (addW f p) l ∧ (∀ k, k ≠ g → w'.heap[k]? = w.heap[k]?) ∧ (∀ B, B ≤ g → Below B w w') :=
  (padd_any g 1 p f w hp hf (Lib.hid h.out.pl1)).mono fun en w' ⟨he, n, hw⟩ => by
    subst hw
    exact ⟨he, (h.out.add1 hf hp).drew n, fun k hk => hp_set w g _ _ hk, fun B hB => below_drewN ((Below.refl B w).setCell (p := ⟨g, _, none⟩) hB _) n⟩

theorem PtB.cp15 {w : World} {g : Nat} {e : Bool} {f l : List Nat} (h : PtB w g e f l) : PtB ((((w.setCell ⟨g, 5, none⟩ (.int .u64 ((gW f 0 : Nat) : Int))).setCell ⟨g, 6, none⟩ (.int .u64 ((gW f 1 : Nat) : Int))).setCell ⟨g, 7, none⟩ (.int .u64 ((gW f 2 : Nat) : Int))).setCell ⟨g, 8, none⟩ (.int .u64 ((gW f 3 : Nat) : Int))) g e f f := h.st5 f
theorem keep4 (w : World) (g : Nat) (a b c d : Value) {k : Nat} (h : k ≠ g) : ((((w.setCell ⟨g, 5, none⟩ a).setCell ⟨g, 6, none⟩ b).setCell ⟨g, 7, none⟩ c).setCell ⟨g, 8, none⟩ d).heap[k]? = w.heap[k]? :=
  (hp_set _ g _ _ h).trans ((hp_set _ g _ _ h).trans ((hp_set _ g _ _ h).trans (hp_set _ g _ _ h)))
theorem bel4 {B : Nat} {a w : World} (hb : Below B a w) {g : Nat} (h : B ≤ g) (x y z u : Value) : Below B a ((((w.setCell ⟨g, 5, none⟩ x).setCell ⟨g, 6, none⟩ y).setCell ⟨g, 7, none⟩ z).setCell ⟨g, 8, none⟩ u) :=
  (((hb.setCell (p := ⟨g, _, none⟩) h _).setCell (p := ⟨g, _, none⟩) h _).setCell (p := ⟨g, _, none⟩) h _).setCell (p := ⟨g, _, none⟩) h _
/-- a block's cells -/
def Bx (w : World) (g : Nat) (cs : Array Value) (T : Nat) : Prop := w.heap[g]? = some (.cells cs T (0, 0))
theorem Bx.cell {w : World} {g : Nat} {cs : Array Value} {T : Nat} (h : Bx w g cs T) (i : Nat) : w.cell? ⟨g, i, none⟩ = cs[i]? := cell_of_row _ _ i _ _ _ h
theorem Bx.lt {w : World} {g : Nat} {cs : Array Value} {T : Nat} (h : Bx w g cs T) : g < w.heap.size := by
  rcases Nat.lt_or_ge g w.heap.size with c | c
  · exact c
  · rw [Bx, Array.getElem?_eq_none c] at h; cases h
theorem Bx.below {w w' : World} {g : Nat} {cs : Array Value} {T : Nat} (h : Bx w g cs T) (hb : Below w.heap.size w w') : Bx w' g cs T := (hb.block g h.lt).trans h
theorem bx_new {w : World} {H : Nat} (hH : w.heap.size = H) (cs : Array Value) (T : Nat) : Bx (w.alloc (.cells cs T)) H cs T := by subst hH; exact heap_alloc_new w _
theorem bx_keep {w w' : World} {g h : Nat} {cs : Array Value} {T : Nat} (p : Hid (Bx w h cs T)) (hk : ∀ k, k ≠ g → w'.heap[k]? = w.heap[k]?) (hn : h ≠ g) : Hid (Bx w' h cs T) := Lib.hid ((hk h hn).trans p.out)
theorem three_new {w : World} (cs : Array Value) (T : Nat) : ∀ W, ((w.alloc (.cells cs T)).alloc (.cells (ptC false noW noW) 97)).alloc (.cells (ptC false noW noW) 97) = W →
    Hid (Bx W w.heap.size cs T) ∧ Hid (PtB W (w.heap.size + 1) false noW noW) ∧ Hid (PtB W (w.heap.size + 1 + 1) false noW noW) ∧ Hid (Below w.heap.size w W) := by
  rintro W rfl
  exact ⟨Lib.hid (((bx_new rfl cs T).below ((Below.refl _ _).alloc (Nat.le_refl _) _)).below ((Below.refl _ _).alloc (Nat.le_refl _) _)), Lib.hid (pt_al (pt_new' (by simp)) _), Lib.hid (pt_new' (by simp)), Lib.hid (((Below.refl w.heap.size w).alloc (Nat.le_refl _) _).alloc (by simp) _ |>.alloc (by simp; omega) _)⟩
/-- a row in memory -/
def Sm (v : Value) : Prop := ∃ q n c, v = .slice (some ⟨q, 0, none⟩) n c
theorem Chg.far {S : Nat → Prop} {a b : World} (h : Chg S a b) {k : Nat} (hk : a.heap.size ≤ k) (i : Nat) (v : Value) : Chg S a (b.setCell ⟨k, i, none⟩ v) :=
  ⟨h.os, h.tape, h.output, by rw [World.size_setCell]; exact h.size, fun j hj hn => (hp_set b k i v (by omega)).trans (h.block j hj hn)⟩
theorem MaM.aside {w : World} {B g o k : Nat} {vf vs : Value} {l : List Pn} {z : List (List Nat)} (h : MaM w B g o vf vs l z) (h1 : k ≠ g) (h2 : vf.ownBlock ≠ some k) (h3 : vs.ownBlock ≠ some k) (i : Nat) (v : Value) : MaM (w.setCell ⟨k, i, none⟩ v) B g o vf vs l z :=
  ⟨(cell_set_blk _ _ _ _ (fun e => h1 e.symm)).trans h.cf, (cell_set_blk _ _ _ _ (fun e => h1 e.symm)).trans h.cs, by rw [World.frozen?_setCell]; exact h.ff, by rw [World.frozen?_setCell]; exact h.fs, h.rf.kept (grown_set w k i v) (.inr h2), h.rs.kept (grown_set w k i v) (.inr h3), h.gf, h.gs, h.gb⟩
theorem MaE.aside {w w' : World} {B g o k : Nat} {vf vs vf' vs' : Value} {l : List Pn} {z : List (List Nat)} (h : MaE w w' B g o vf vs vf' vs' l z) (hk : w.heap.size ≤ k) (h1 : k ≠ g) (h2 : vf'.ownBlock ≠ some k) (h3 : vs'.ownBlock ≠ some k) (i : Nat) (v : Value) : MaE w (w'.setCell ⟨k, i, none⟩ v) B g o vf vs vf' vs' l z :=
  ⟨h.m.aside h1 h2 h3 i v, h.chg.far hk i v, fun j a b => (cell_set_blk _ _ _ _ (fun e => h1 e.symm)).trans (h.cel j a b), fun j => by rw [World.frozen?_setCell]; exact h.frz j, h.obf, h.obs⟩
theorem MaE.aside9 {w w' : World} {B g o k : Nat} {vf vs vf' vs' : Value} {l : List Pn} {z : List (List Nat)} (h : MaE w w' B g o vf vs vf' vs' l z) (hk : w.heap.size ≤ k) (h1 : k ≠ g) (h2 : vf'.ownBlock ≠ some k) (h3 : vs'.ownBlock ≠ some k) (v0 v1 v2 v3 v4 v5 v6 v7 v8 : Value) :
    MaE w (((((((((w'.setCell ⟨k, 0, none⟩ v0).setCell ⟨k, 1, none⟩ v1).setCell ⟨k, 2, none⟩ v2).setCell ⟨k, 3, none⟩ v3).setCell ⟨k, 4, none⟩ v4).setCell ⟨k, 5, none⟩ v5).setCell ⟨k, 6, none⟩ v6).setCell ⟨k, 7, none⟩ v7).setCell ⟨k, 8, none⟩ v8) B g o vf vs vf' vs' l z :=
  ((((((((h.aside hk h1 h2 h3 0 v0).aside hk h1 h2 h3 1 v1).aside hk h1 h2 h3 2 v2).aside hk h1 h2 h3 3 v3).aside hk h1 h2 h3 4 v4).aside hk h1 h2 h3 5 v5).aside hk h1 h2 h3 6 v6).aside hk h1 h2 h3 7 v7).aside hk h1 h2 h3 8 v8
set_option maxHeartbeats 4000000 in
set_option maxRecDepth 100000 in
theorem place_any (B mb n : Nat) (vr vf : Value) (rn : List Pn) (fl : List (List Nat)) (x : Pn) (w : World) (h : Hid (MaM w B mb 0 vr vf rn fl)) (hr : Hid (rn.length = n)) (hl : Hid (fl.length = n)) (hn : n < 256) :
    Calls Tryz.prog 53 #[.pointer (some ⟨mb, 0, none⟩), .agg #[.int .i64 x.1, .int .i64 x.2.1, .int .i64 x.2.2.1, .int .i64 x.2.2.2.1, .int .i64 x.2.2.2.2]] w fun e w' => e = .returned (.agg (ptC false (addW noW n) (addW noW n))) ∧ ∃ vr' vf', Sm vf' ∧ MaE w w' B mb 0 vr vf vr' vf' (rn ++ [x]) (fl ++ [noW]) := by
  obtain ⟨i0, hi, hz0, hz1, hz2⟩ := info_parts Tryz.infoPn
  obtain ⟨j0, hj, hj0, hj1, hj2⟩ := info_parts Tryz.infoPl
  obtain ⟨x0, x1, x2, x3, x4⟩ := x
  obtain ⟨Ar, cr, er, hcr, _⟩ := own_form h.out.rf
  obtain ⟨Af, cf, ef, hcf, _⟩ := own_form h.out.rs
  rw [hr.out] at er
  rw [hl.out] at ef
  subst er
  subst ef
  have hA := three_new (w := w) #[.int .i64 x0, .int .i64 x1, .int .i64 x2, .int .i64 x3, .int .i64 x4] 42
  have hlt := h.out.lt
  have hgb := h.out.gb
  have n1 : w.heap.size ≠ w.heap.size + 1 + 1 := by omega
  have n2 : w.heap.size + 1 ≠ w.heap.size + 1 + 1 := by omega
  have n3 : w.heap.size ≤ w.heap.size + 1 + 1 := by omega
  have HK : Hid (∀ k, w.heap.size ≤ k → ¬ (k = mb ∨ (Value.slice Ar n cr).ownBlock = some k ∨ (Value.slice Af n cf).ownBlock = some k)) := Lib.hid (fun k h1 h2 => by
    rcases h2 with e | e | e
    · omega
    · have := (h.out.rf.lt k e).2; omega
    · have := (h.out.rs.lt k e).2; omega)
  dsimp only
  go_enter Tryz.func53, Tryz.ntmps53
  go_upto_region 2 with fail
  generalize hwa : World.alloc (World.alloc (World.alloc w _) _) _ = wa
  obtain ⟨b0, r0, q0, B0⟩ := hA _ hwa
  clear hwa hA
  have M0 := Lib.hid (h.out.keep B0.out)
  have c0 := M0.out.cf
  go_upto_region 3 with (go_at_call 67; with_reducible refine (add_pt q0 no_w4 hn).mono ?_; rintro e w1 ⟨rfl, q1, k1, B1⟩)
  replace q1 := Lib.hid q1
  have b1 := bx_keep b0 k1 n1
  have r1 := pt_keep r0 k1 n2
  replace B1 := Lib.hid (B0.out.trans (B1 _ n3))
  clear b0 r0 q0 B0 M0 c0 k1
  obtain ⟨_, y1, y2, y3, y4, y5, y6, y7, y8⟩ := q1.out.cells
  have yf := q1.out.frz
  go_upto_region 4 with fail
  have q2' := Lib.hid q1.out.cp15
  have k2 := fun k (hk : k ≠ w.heap.size + 1 + 1) => keep4 w1 (w.heap.size + 1 + 1) (.int .u64 ((gW (addW noW n) 0 : Nat) : Int)) (.int .u64 ((gW (addW noW n) 1 : Nat) : Int)) (.int .u64 ((gW (addW noW n) 2 : Nat) : Int)) (.int .u64 ((gW (addW noW n) 3 : Nat) : Int)) hk
  have B2' := Lib.hid (bel4 B1.out n3 (.int .u64 ((gW (addW noW n) 0 : Nat) : Int)) (.int .u64 ((gW (addW noW n) 1 : Nat) : Int)) (.int .u64 ((gW (addW noW n) 2 : Nat) : Int)) (.int .u64 ((gW (addW noW n) 3 : Nat) : Int)))
  generalize World.setCell (World.setCell (World.setCell (World.setCell w1 _ _) _ _) _ _) _ _ = w2 at *
  have b2 := bx_keep b1 k2 n1
  have r2 := pt_keep r1 k2 n2
  clear q1 b1 r1 B1 k2 y1 y2 y3 y4 y5 y6 y7 y8 yf
  have M2 := Lib.hid (h.out.keep B2'.out)
  have c0 := M2.out.cf
  have f0 := M2.out.ff
  have HO : Hid (w2.ownsRow B 42 5 (.slice Ar n cr) n (pnC rn)) := Lib.hid (by have := M2.out.rf; rw [hr.out] at this; exact this)
  have u0 := b2.out.cell 0
  have u1 := b2.out.cell 1
  have u2 := b2.out.cell 2
  have u3 := b2.out.cell 3
  have u4 := b2.out.cell 4
  have hbl := b2.out.lt
  have hql := q2'.out.lt
  have hrl := r2.out.lt
  simp at u0 u1 u2 u3 u4
  have hgl := M2.out.lt
  have hbn : ¬ w.heap.size = w2.heap.size := by omega
  have hgn : ¬ mb = w2.heap.size := by omega
  have hsz2 : B ≤ w2.heap.size := by omega
  have hvg : (Value.slice Ar n cr).ownBlock ≠ some mb := M2.out.gf
  go_region_law ((refine step_append_lies _ (by rfl) _ _ _ (by rfl) B 42 i0 _ 5 40 Tryz.underlying24 hi hz0 hz1 hz2 rfl (by omega) (.slice Ar n cr) n (pnC rn) (by rfl) (by first | exact HO.out.alloc_own _ | exact HO.out.alloc_own2 _) _ _ _ (c5 (x0, x1, x2, x3, x4)) (by rfl) (by rfl) (World.news_of_block (heap_alloc_new _ _)) (by simp [c5, Value.oneCell']) (by omega) (by simp only [maxLen]; omega) (by omega) (by simp; omega) _ rfl ?_; intro gn cap w4 hown hgrow hat hlt; have d1 := (hgrow.cell_far ⟨mb, 0, none⟩ (by simp; omega) (Ne.symm hvg)).trans (show _ = some (Value.slice Ar n cr) by go_simp); have e1 := (hgrow.frozen_far ⟨mb, 0, none⟩ (by simp; omega) (Ne.symm hvg)).trans (show _ = false by go_simp)))
  all_goals
    have hE := MaM.node M2.out (by first | exact ((Below.refl _ _).alloc (Nat.le_refl _) _).drew | exact (Below.refl _ _).drew.alloc (Nat.le_refl _) _) (by rw [hr.out]; exact hown) hgrow (hat.imp id (fun e => by rw [e]; simp))
    rw [hr.out] at hE
    have hgk : Hid (∀ k, w.heap.size ≤ k → k < w2.heap.size → gn ≠ k) := Lib.hid (fun k h1 h2 e => by
      rcases hat with q | q
      · have := HK.out k h1
        rw [e] at q
        exact this (.inr (.inl q))
      · have : w2.heap.size ≤ gn := by rw [q]; simp
        omega)
    have q5 := Lib.hid (q2'.out.keep (hE.chg.block _ hql (HK.out _ (by omega))))
    have r5 := Lib.hid (r2.out.keep (hE.chg.block _ hrl (HK.out _ (by omega))))
    have HS5 := Lib.hid hE.chg.size
    have E5 := Lib.hid ((MaE.same h.out B2'.out).trans hE)
    clear hE hown hgrow hat hlt d1 e1 c0 f0 u0 u1 u2 u3 u4 HO b2
    generalize hw5 : World.setCell _ ⟨mb, 0, none⟩ (.slice (some ⟨gn, 0, none⟩) (n + 1) cap) = w5 at *
    clear hw5
    have c1 := E5.out.m.cs
    have f1 := E5.out.m.fs
    have HO2 : Hid (w5.ownsRow B 95 4 (.slice Af n cf) n (flC fl)) := Lib.hid (by have := E5.out.m.rs; rw [hl.out] at this; exact this)
    have hgl5 := E5.out.m.lt
    have hgn5 : ¬ mb = w5.heap.size := by omega
    have hvs : (Value.slice Af n cf).ownBlock ≠ some mb := E5.out.m.gs
    go_upto_region 6 with (refine wpList_append_lies _ rfl _ _ _ rfl B 95 j0 _ 4 32 Tryz.underlying92 hj hj0 hj1 hj2 rfl (by omega) (.slice Af n cf) n (flC fl) rfl (HO2.out.alloc _) _ _ _ [.int .u64 0, .int .u64 0, .int .u64 0, .int .u64 0] rfl rfl (World.news_of_block (heap_alloc_new _ _)) (by simp [Value.oneCell']) (by omega) (by simp only [maxLen]; omega) (by omega) (by simp; omega) _ rfl ?_; intro gn2 cap2 w6 hown2 hgrow2 hat2 hlt2; have d2 := (hgrow2.cell_far ⟨mb, 1, none⟩ (by simp; omega) (Ne.symm hvs)).trans (show _ = some (Value.slice Af n cf) by go_simp); have e2 := (hgrow2.frozen_far ⟨mb, 1, none⟩ (by simp; omega) (Ne.symm hvs)).trans (show _ = false by go_simp))
    have hE7 := MaM.size (n := noW) E5.out.m ((Below.refl _ _).alloc (Nat.le_refl _) _) (by rw [hl.out]; exact hown2) hgrow2 (hat2.imp id (fun e => by rw [e]; simp))
    rw [hl.out] at hE7
    have q7 := Lib.hid (q5.out.keep (hE7.chg.block _ (by have := HS5.out; omega) (fun e => by
      rcases e with e | e | e
      · omega
      · exact hgk.out _ (by omega) hql (by simpa [Value.ownBlock] using e)
      · exact HK.out _ (by omega) (.inr (.inr e)))))
    have r7 := Lib.hid (r5.out.keep (hE7.chg.block _ (by have := HS5.out; omega) (fun e => by
      rcases e with e | e | e
      · omega
      · exact hgk.out _ (by omega) hrl (by simpa [Value.ownBlock] using e)
      · exact HK.out _ (by omega) (.inr (.inr e)))))
    have hfar : Hid (w.heap.size + 1 ≠ mb ∧ (Value.slice (some ⟨gn, 0, none⟩) (n + 1) cap).ownBlock ≠ some (w.heap.size + 1) ∧ (Value.slice (some ⟨gn2, 0, none⟩) (n + 1) cap2).ownBlock ≠ some (w.heap.size + 1)) := Lib.hid (⟨by omega, fun e => hgk.out _ (by omega) hrl (by simpa [Value.ownBlock] using e), fun e => by
      have e' : gn2 = w.heap.size + 1 := by simpa [Value.ownBlock] using e
      rcases hat2 with q | q
      · exact HK.out _ (show w.heap.size ≤ w.heap.size + 1 by omega) (.inr (.inr (by rw [q, e'])))
      · have := HS5.out; rw [e'] at q; simp at q; omega⟩)
    have E7 := Lib.hid (E5.out.trans hE7)
    clear hE7 hown2 hgrow2 hat2 hlt2 d2 e2 c1 f1 HO2 E5 q5 r5
    generalize World.setCell w6 _ (.slice (some ⟨gn2, 0, none⟩) (n + 1) cap2) = w7 at *
    have E8 := fun v0 v1 v2 v3 v4 v5 v6 v7 v8 => E7.out.aside9 (k := w.heap.size + 1) (by omega) hfar.out.1 hfar.out.2.1 hfar.out.2.2 v0 v1 v2 v3 v4 v5 v6 v7 v8
    obtain ⟨s0, s1, s2, s3, s4, s5, s6, s7, s8⟩ := q7.out.cells
    obtain ⟨t0, t1, t2, t3, t4, t5, t6, t7, t8⟩ := r7.out.cells
    have tf := r7.out.frz
    clear q7 r7 E7
    go_wp2
    refine bodyPost_ret (v := .agg (ptC false (addW noW n) (addW noW n))) ?_ rfl ⟨rfl, _, _, ⟨_, _, _, rfl⟩, E8 _ _ _ _ _ _ _ _ _⟩
    rw [results_cell1 rfl]
    unfold ptC
    go_simp

end Go.Proofs.YtfkljlncnfeklaaGreatDoor

/-! What the machine's walk stands in: the captured variables, the pattern's nodes, the library's table; what stays. -/
namespace Go.Proofs.YtfkljlncnfeklaaGreatDoor
open Go.RowKit Go.Shelf
set_option linter.unusedVariables false
set_option linter.unusedSimpArgs false

theorem own_ne {w : World} {B e size n k T : Nat} {v : Value} {xs : List Value} {cs : Array Value} {fz : Nat × Nat} (h : w.ownsRow B e size v n xs) (hk : w.heap[k]? = some (.cells cs T fz)) (hT : T ≠ e) : v.ownBlock ≠ some k := by
  intro e1
  rcases h.2 with ⟨rfl, _⟩ | ⟨q, cap, cur, rfl, _, hq, _⟩
  · cases e1
  · have e2 : q = k := Option.some.inj e1
    subst e2
    rw [hk] at hq
    injection hq with hq
    injection hq with _ h2
    exact hT h2
section
variable {w w' : World} {B g o k T : Nat} {vf vs vf' vs' : Value} {l l0 : List Pn} {z z0 : List (List Nat)} {cs : Array Value}
theorem MaE.box (E : MaE w w' B g o vf vs vf' vs' l z) (M : MaM w B g o vf vs l0 z0) (hb : Bx w k cs T) (h1 : T ≠ 42) (h2 : T ≠ 95) (h3 : k ≠ g) : Bx w' k cs T :=
  (E.chg.block k hb.lt (by
    rintro (e | e | e)
    · exact h3 e
    · exact own_ne M.rf hb h1 e
    · exact own_ne M.rs hb h2 e)).trans hb
theorem MaE.low (E : MaE w w' B g o vf vs vf' vs' l z) (M : MaM w B g o vf vs l0 z0) (hk : k < B) : w'.heap[k]? = w.heap[k]? :=
  E.chg.block k (by have := M.gb; have := M.lt; omega) (by
    rintro (e | e | e)
    · have := M.gb; omega
    · have := (M.rf.lt k e).1; omega
    · have := (M.rs.lt k e).1; omega)
theorem MaE.bel (E : MaE w w' B g o vf vs vf' vs' l z) (M : MaM w B g o vf vs l0 z0) : Below B w w' :=
  E.chg.below (by have := M.gb; have := M.lt; omega) (fun k hk => by
    rintro (e | e | e)
    · have := M.gb; omega
    · have := (M.rf.lt k e).1; omega
    · have := (M.rs.lt k e).1; omega)
theorem MaE.pt {e : Bool} {fa la : List Nat} (E : MaE w w' B g o vf vs vf' vs' l z) (M : MaM w B g o vf vs l0 z0) (hb : PtB w k e fa la) (h3 : k ≠ g) : PtB w' k e fa la := MaE.box E M (show Bx w k _ 97 from hb) (by decide) (by decide) h3
theorem MaE.asidePt {w0 : World} {e : Bool} {fa la : List Nat} (E : MaE w0 w B g o vf vs vf' vs' l z) (hb : PtB w k e fa la) (hk : w0.heap.size ≤ k) (h3 : k ≠ g) (i : Nat) (v : Value) : MaE w0 (w.setCell ⟨k, i, none⟩ v) B g o vf vs vf' vs' l z :=
  E.aside hk h3 (own_ne E.m.rf hb (by decide)) (own_ne E.m.rs hb (by decide)) i v
end
/-- a node as the machine keeps it -/
def rgN (x : Nat × Nat) : Pn := (1, (x.1 : Int), (x.2 : Int), 0, 0)
def rgL (r : Rx) : List Pn := r.rgs.map rgN
theorem rgL_len (r : Rx) : (rgL r).length = r.pl := by unfold rgL; rw [List.length_map, Rx.rgs_len]
/-- what stays around the walk -/
structure WkE (W : World) (B Pb Mb Wb mb m c : Nat) (A : Option Addr) (l : List Pn) : Prop where
  bp : Bx W Pb #[.slice A m c] 25
  bm : Bx W Mb #[.pointer (some ⟨mb, 0, none⟩)] 48
  bw : Bx W Wb #[.func (.func 52) #[] #[.pointer (some ⟨Pb, 0, none⟩), .pointer (some ⟨Mb, 0, none⟩), .pointer (some ⟨Wb, 0, none⟩)]] 100
  nd : Rp W B A l
  tz : Tz W
  np : Pb ≠ mb
  nm : Mb ≠ mb
  nw : Wb ≠ mb
  tb : 2 < B
  lm : l.length = m
section
variable {W W' : World} {B Pb Mb Wb mb m c : Nat} {A : Option Addr} {l : List Pn} {vf vs vf' vs' : Value} {rn rn0 : List Pn} {z z0 : List (List Nat)}
theorem WkE.step (h : WkE W B Pb Mb Wb mb m c A l) (E : MaE W W' B mb 0 vf vs vf' vs' rn z) (M : MaM W B mb 0 vf vs rn0 z0) : WkE W' B Pb Mb Wb mb m c A l :=
  ⟨E.box M h.bp (by decide) (by decide) h.np, E.box M h.bm (by decide) (by decide) h.nm, E.box M h.bw (by decide) (by decide) h.nw, h.nd.keep (fun k hk => E.low M hk), fun j hj => (World.cell?_of_block (w := W) (E.low M h.tb)).trans (h.tz j hj), h.np, h.nm, h.nw, h.tb, h.lm⟩
theorem WkE.keep (h : WkE W B Pb Mb Wb mb m c A l) (hb : Below W.heap.size W W') (hB : B ≤ W.heap.size) : WkE W' B Pb Mb Wb mb m c A l :=
  ⟨h.bp.below hb, h.bm.below hb, h.bw.below hb, h.nd.keep (fun k hk => hb.block k (by omega)), fun j hj => (World.cell?_of_block (w := W) (hb.block _ (Nat.lt_of_lt_of_le h.tb hB))).trans (h.tz j hj), h.np, h.nm, h.nw, h.tb, h.lm⟩
end

theorem pre2 {w : World} (cs : Array Value) (T : Nat) : ∀ W, (w.alloc (.cells (ptC false noW noW) 97)).alloc (.cells cs T) = W → Hid (PtB W w.heap.size false noW noW) ∧ Hid (Bx W (w.heap.size + 1) cs T) ∧ Hid (Below w.heap.size w W) := by
  rintro W rfl
  exact ⟨Lib.hid (pt_al pt_new _), Lib.hid (bx_new (by simp) cs T), Lib.hid (((Below.refl w.heap.size w).alloc (Nat.le_refl _) _).alloc (by simp) _)⟩
theorem MaM.conn {W w' : World} {B mb f cap : Nat} {vr : Value} {rn : List Pn} {fl fl' : List (List Nat)} (M : MaM W B mb 0 vr (.slice (some ⟨f, 0, none⟩) fl.length cap) rn fl) (hv : Mv f W w') (hf : FoO w' B f cap fl') (hl : fl'.length = fl.length) :
    MaE W w' B mb 0 vr (.slice (some ⟨f, 0, none⟩) fl.length cap) vr (.slice (some ⟨f, 0, none⟩) fl.length cap) rn fl' := by
  have hg := M.lt
  have hne : mb ≠ f := fun e => M.gs (by rw [e]; rfl)
  have hlt : f < W.heap.size := (M.rs.lt f rfl).2
  have hrf : vr.ownBlock ≠ some f := fun e => own_types M.rf M.rs (by decide) e rfl
  refine ⟨⟨(hv.cell hg hne _).trans M.cf, (hv.cell hg hne _).trans M.cs, (hv.frozen hg hne _).trans M.ff, (hv.frozen hg hne _).trans M.fs, M.rf.kept (row := some f) ⟨hv.os, hv.tape, hv.output, hv.size, fun k hk hn => hv.block k hk (fun e => hn (by rw [e]))⟩ (.inr hrf), ?_, M.gf, M.gs, M.gb⟩,
    ⟨hv.os, hv.tape, hv.output, hv.size, fun k hk hn => hv.block k hk (fun e => hn (.inr (.inr (by rw [e]; rfl))))⟩, fun j _ _ => hv.cell hg hne _, fun j => hv.frozen hg hne _, fun _ e => .inl e, fun _ e => .inl e⟩
  rw [← hl]
  exact hf
theorem conn_pt {W : World} {B Pb Mb Wb mb m c : Nat} {A : Option Addr} {l : List Pn} {vr vf : Value} {rn : List Pn} {fl : List (List Nat)} {ga gb : Nat} {ea eb : Bool} {fa la fb lb : List Nat}
    (E : WkE W B Pb Mb Wb mb m c A l) (M : MaM W B mb 0 vr vf rn fl) (S : Sm vf) (pa : PtB W ga ea fa la) (pb : PtB W gb eb fb lb) (ha : ga ≠ mb) (hb : gb ≠ mb) (wf : AllW fl) (wa : W4 la) (wb : W4 fb) (hlt : ∀ p ∈ els la, p < fl.length) :
    Calls Tryz.prog 54 #[.pointer (some ⟨mb, 0, none⟩), .pointer (some ⟨ga, 0, none⟩), .pointer (some ⟨gb, 0, none⟩)] W fun e w' => e = .returned (.tuple #[]) ∧ MaE W w' B mb 0 vr vf vr vf rn (conW fb fl (els la)) := by
  obtain ⟨f, n, cap, rfl⟩ := S
  have hn : n = fl.length := by
    obtain ⟨A', c', e, _⟩ := own_form M.rs
    injection e
  subst hn
  have hgb := M.gb
  have hfB := (M.rs.lt f rfl).1
  have htb := E.tb
  have htz := E.tz
  have nga : f ≠ ga := fun e => own_ne M.rs pa (by decide) (by rw [← e]; rfl)
  have ngb : f ≠ gb := fun e => own_ne M.rs pb (by decide) (by rw [← e]; rfl)
  have hlm := M.lt
  have htf : f ≠ 2 := by omega
  have hts : 2 < W.heap.size := by omega
  refine (callsIn_wide.1 (connect_any B mb f cap ga 0 gb 0 fl la fb W (lid' M.cs) (lid' (by rw [Nat.zero_add]; exact pa.pl5)) (lid' (by rw [Nat.zero_add]; exact pb.pl1)) (lid' M.rs) wf wa wb hlt (lid' htz)
    nga ngb (fun e => M.gs (by rw [← e]; rfl)) htf (M.rs.lt f rfl).2 pa.lt pb.lt M.lt hts)).mono ?_
  rintro e w' ⟨he, hv, hf⟩
  exact ⟨he, M.conn hv hf (conW_len _ _ _)⟩
/-- what a call of the walk at node k leaves -/
def WkR (w : World) (B mb n : Nat) (F : Nat → Nat → Bool) (vr vf : Value) (rn : List Pn) (r : Rx) (e : Ending) (w' : World) : Prop :=
  ∃ fa la, e = .returned (.agg (ptC r.nul fa la)) ∧ PrR n r fa la ∧ ∃ vr' vf' fl', Sm vf' ∧ MaE w w' B mb 0 vr vf vr' vf' (rn ++ rgL r) fl' ∧ FlR F n r fl'
/-- the contract of the walk at node k -/
def WkC (B Pb Mb Wb mb m c : Nat) (A : Option Addr) (l : List Pn) (k : Nat) : Prop := ∀ (W : World) (F : Nat → Nat → Bool) (n : Nat) (vr vf : Value) (rn : List Pn) (fl : List (List Nat)),
  WkE W B Pb Mb Wb mb m c A l → MaM W B mb 0 vr vf rn fl → Sm vf → rn.length = n → FlR F n .emp fl → n + (rxN l k).pl ≤ 256 →
  Calls Tryz.prog 52 #[.int .i64 (k : Int), .pointer (some ⟨Pb, 0, none⟩), .pointer (some ⟨Mb, 0, none⟩), .pointer (some ⟨Wb, 0, none⟩)] W (WkR W B mb n F vr vf rn (rxN l k))

end Go.Proofs.YtfkljlncnfeklaaGreatDoor

/-! A region that draws its order, by an invariant: what holds of each set of operations that have run, whatever their order was. -/
namespace Go.Proofs.YtfkljlncnfeklaaGreatDoor
open Go

section
variable {P : Program} {ops : Array Oper} {Q : Exit → Act → World → Prop} {md : Region.Mode}

theorem ready_none {l : Array Bool} (h : l.count false = 0) (hs : l.size = ops.size) : Region.ready md ops l = [] := by
  rw [List.eq_nil_iff_forall_not_mem]
  intro i hi
  obtain ⟨h0, o, ho, _⟩ := mem_ready.1 hi
  have hlt : i < l.size := by rw [hs]; exact (Array.getElem?_eq_some_iff.1 ho).1
  have hf : l[i] = false := by simpa [hlt] using h0
  have : false ∈ l := hf ▸ Array.getElem_mem hlt
  exact absurd h (by have := Array.count_pos_iff.2 this; omega)
theorem count_set {l : Array Bool} {i : Nat} (h : l.getD i true = false) : (l.setIfInBounds i true).count false + 1 = l.count false := by
  have hlt : i < l.size := by
    rcases Nat.lt_or_ge i l.size with h' | h'
    · exact h'
    · simp [Array.getElem?_eq_none h'] at h
  have hf : l[i] = false := by simpa [hlt] using h
  rw [Array.setIfInBounds_def, dif_pos hlt, Array.count_set]
  have : false ∈ l := hf ▸ Array.getElem_mem hlt
  have := Array.count_pos_iff.2 this
  simp [hf]
  omega
/-- by an invariant -/
theorem wpAny_inv (Inv : Array Bool → Act → World → Prop)
    (hdone : ∀ l a w, Inv l a w → Region.ready md ops l = [] → Q .normal a w)
    (hstep : ∀ l a w, Inv l a w → ∀ i ∈ Region.ready md ops l, wpOp P ops Q i (Inv (l.setIfInBounds i true)) a w) :
    ∀ (fuel : Nat) (l : Array Bool) (a : Act) (w : World), Inv l a w → l.size = ops.size → l.count false ≤ fuel → wpAny P md ops Q fuel l a w := by
  intro fuel
  induction fuel with
  | zero =>
    intro l a w h hs hc
    have hr := ready_none (md := md) (by omega) hs
    exact ⟨hr, hdone l a w h hr⟩
  | succ fuel ih =>
    intro l a w h hs hc
    refine ⟨hdone l a w h, fun i hi => wpOp_mono (fun a' w' h' => ih _ a' w' h' ?_ ?_) (hstep l a w h i hi)⟩
    · rw [Array.size_setIfInBounds]; exact hs
    · have := count_set (mem_ready.1 hi).1
      omega
/-- an operation without edges left, not listed: it is ready -/
theorem ready_of {l : Array Bool} {i : Nat} {o : Oper} (ho : ops[i]? = some o) (h : l.getD i true = false) (he : ∀ e ∈ o.after, Region.binds md e = true → l.getD e.on false = true) : i ∈ Region.ready md ops l := mem_ready.2 ⟨h, o, ho, he⟩
/-- where nothing is ready, each operation whose edges have run has run -/
theorem must_run {l : Array Bool} {i : Nat} {o : Oper} (hr : Region.ready md ops l = []) (ho : ops[i]? = some o) (he : ∀ e ∈ o.after, Region.binds md e = true → l.getD e.on false = true) : l.getD i true = true := by
  rcases h : l.getD i true with _ | _
  · have := ready_of (md := md) ho h he
    rw [hr] at this; cases this
  · rfl
/-- the frame under a name -/
theorem wpAny_named {fuel : Nat} {l : Array Bool} {a : Act} {w : World} (h : ∀ a0, a0 = a → wpAny P md ops Q fuel l a0 w) : wpAny P md ops Q fuel l a w := h a rfl
end

end Go.Proofs.YtfkljlncnfeklaaGreatDoor

/-! Two operands of a node: what holds of each set of operations that have run. -/
namespace Go.Proofs.YtfkljlncnfeklaaGreatDoor
open Go.RowKit Go.Shelf
set_option linter.unusedVariables false
set_option linter.unusedSimpArgs false

theorem MaE.trans' {w w1 w2 : World} {B g o : Nat} {vf vs vf1 vs1 vf2 vs2 : Value} {l1 l2 : List Pn} {z1 z2 : List (List Nat)} (h : MaE w w1 B g o vf vs vf1 vs1 l1 z1) (k : MaE w1 w2 B g o vf1 vs1 vf2 vs2 l2 z2) : MaE w w2 B g o vf vs vf2 vs2 l2 z2 := h.trans k
theorem set9 (e : Bool) (f l : List Nat) (a0 a1 a2 a3 a4 a5 a6 a7 a8 : Value) : (((((((((ptC e f l).setIfInBounds 0 a0).setIfInBounds 1 a1).setIfInBounds 2 a2).setIfInBounds 3 a3).setIfInBounds 4 a4).setIfInBounds 5 a5).setIfInBounds 6 a6).setIfInBounds 7 a7).setIfInBounds 8 a8 = #[a0, a1, a2, a3, a4, a5, a6, a7, a8] := by
  simp [ptC]
theorem PtB.st9 {w : World} {g : Nat} {e e' : Bool} {f l f' l' : List Nat} (h : PtB w g e f l) :
    PtB (((((((((w.setCell ⟨g, 0, none⟩ (.bool e')).setCell ⟨g, 1, none⟩ (.int .u64 ((gW f' 0 : Nat) : Int))).setCell ⟨g, 2, none⟩ (.int .u64 ((gW f' 1 : Nat) : Int))).setCell ⟨g, 3, none⟩ (.int .u64 ((gW f' 2 : Nat) : Int))).setCell ⟨g, 4, none⟩ (.int .u64 ((gW f' 3 : Nat) : Int))).setCell ⟨g, 5, none⟩ (.int .u64 ((gW l' 0 : Nat) : Int))).setCell ⟨g, 6, none⟩ (.int .u64 ((gW l' 1 : Nat) : Int))).setCell ⟨g, 7, none⟩ (.int .u64 ((gW l' 2 : Nat) : Int))).setCell ⟨g, 8, none⟩ (.int .u64 ((gW l' 3 : Nat) : Int))) g e' f' l' := by
  have h0 := heap_set _ g 0 (.bool e') h
  have h1 := heap_set _ g 1 (.int .u64 ((gW f' 0 : Nat) : Int)) h0
  have h2 := heap_set _ g 2 (.int .u64 ((gW f' 1 : Nat) : Int)) h1
  have h3 := heap_set _ g 3 (.int .u64 ((gW f' 2 : Nat) : Int)) h2
  have h4 := heap_set _ g 4 (.int .u64 ((gW f' 3 : Nat) : Int)) h3
  have h5 := heap_set _ g 5 (.int .u64 ((gW l' 0 : Nat) : Int)) h4
  have h6 := heap_set _ g 6 (.int .u64 ((gW l' 1 : Nat) : Int)) h5
  have h7 := heap_set _ g 7 (.int .u64 ((gW l' 2 : Nat) : Int)) h6
  have h8 := heap_set _ g 8 (.int .u64 ((gW l' 3 : Nat) : Int)) h7
  rw [set9] at h8
  exact h8
theorem keep9 (w : World) (g : Nat) (v0 v1 v2 v3 v4 v5 v6 v7 v8 : Value) {k : Nat} (h : k ≠ g) : (((((((((w.setCell ⟨g, 0, none⟩ v0).setCell ⟨g, 1, none⟩ v1).setCell ⟨g, 2, none⟩ v2).setCell ⟨g, 3, none⟩ v3).setCell ⟨g, 4, none⟩ v4).setCell ⟨g, 5, none⟩ v5).setCell ⟨g, 6, none⟩ v6).setCell ⟨g, 7, none⟩ v7).setCell ⟨g, 8, none⟩ v8).heap[k]? = w.heap[k]? :=
  (hp_set _ g _ _ h).trans ((hp_set _ g _ _ h).trans ((hp_set _ g _ _ h).trans ((hp_set _ g _ _ h).trans ((hp_set _ g _ _ h).trans ((hp_set _ g _ _ h).trans ((hp_set _ g _ _ h).trans ((hp_set _ g _ _ h).trans (hp_set _ g _ _ h))))))))
def up1 {α : Type} (g : Nat → α) (k : Nat) (v : α) : Nat → α := fun i => if i = k then v else g i
theorem up1_at {α : Type} (g : Nat → α) (k : Nat) (v : α) : up1 g k v k = v := if_pos rfl
theorem up1_ne {α : Type} (g : Nat → α) {k i : Nat} (v : α) (h : i ≠ k) : up1 g k v i = g i := if_neg h
structure PbD where
  fa : List Nat
  la : List Nat
  fb : List Nat
  lb : List Nat
  g : Nat
  h : Nat
def sel {α : Type} (s : Bool) (a b : α) : α := if s then a else b
/-- which of the two calls have run (c1, c2), which variables are there (p, q), which values are stored (s, t) -/
structure Sw (w1 : World) (B mb n : Nat) (F : Nat → Nat → Bool) (vr vf : Value) (rn : List Pn) (fl : List (List Nat)) (ra rb : Rx) (c1 c2 p q s t : Bool) (D : PbD) (W : World) : Prop where
  cc : c2 = true → c1 = true
  ss : s = true → c1 = true ∧ c2 = true ∧ p = true ∧ q = true
  tt : t = true → s = true
  s0 : c1 = false → MaE w1 W B mb 0 vr vf vr vf rn fl
  s1 : c1 = true → c2 = false → ∃ vr' vf' fl1, Sm vf' ∧ MaE w1 W B mb 0 vr vf vr' vf' (rn ++ rgL ra) fl1 ∧ FlR F n ra fl1
  s2 : c2 = true → ∃ vr' vf' fl2, Sm vf' ∧ MaE w1 W B mb 0 vr vf vr' vf' (rn ++ rgL ra ++ rgL rb) fl2 ∧ FlR (ext F n ra) (n + ra.pl) rb fl2
  pa : c1 = true → PrR n ra D.fa D.la
  pb : c2 = true → PrR (n + ra.pl) rb D.fb D.lb
  pg : p = true → w1.heap.size ≤ D.g ∧ PtB W D.g (sel s ra.nul false) (sel s D.fa noW) (sel s D.la noW)
  ph : q = true → w1.heap.size ≤ D.h ∧ PtB W D.h (sel t rb.nul false) (sel t D.fb noW) (sel t D.lb noW)
  ne : p = true → q = true → D.g ≠ D.h
section
variable {w1 W W' : World} {B mb n : Nat} {F : Nat → Nat → Bool} {vr vf : Value} {rn : List Pn} {fl : List (List Nat)} {ra rb : Rx} {c1 c2 p q s t : Bool} {D : PbD} {e : Ending}
theorem Sw.any (h : Sw w1 B mb n F vr vf rn fl ra rb c1 c2 p q s t D W) : ∃ vr' vf' rn' fl', MaE w1 W B mb 0 vr vf vr' vf' rn' fl' := by
  cases hc1 : c1
  · exact ⟨_, _, _, _, h.s0 hc1⟩
  · cases hc2 : c2
    · obtain ⟨a, b, c, _, d, _⟩ := h.s1 hc1 hc2; exact ⟨_, _, _, _, d⟩
    · obtain ⟨a, b, c, _, d, _⟩ := h.s2 hc2; exact ⟨_, _, _, _, d⟩
theorem Sw.start (M : MaM w1 B mb 0 vr vf rn fl) (hb : Below w1.heap.size w1 W) (D : PbD) : Sw w1 B mb n F vr vf rn fl ra rb false false false false false false D W :=
  ⟨fun h => (by cases h), fun h => (by cases h), fun h => (by cases h), fun _ => MaE.same M hb, fun h => (by cases h), fun h => (by cases h), fun h => (by cases h), fun h => (by cases h), fun h => (by cases h), fun h => (by cases h), fun h => (by cases h)⟩
theorem Sw.call1 (h : Sw w1 B mb n F vr vf rn fl ra rb false c2 p q s t D W) (M : MaM w1 B mb 0 vr vf rn fl) (r : WkR W B mb n F vr vf rn ra e W') : ∃ fa la, e = .returned (.agg (ptC ra.nul fa la)) ∧ Sw w1 B mb n F vr vf rn fl ra rb true c2 p q s t { D with fa := fa, la := la } W' := by
  have hc2 : c2 = false := by cases hc : c2; rfl; exact absurd (h.cc hc) (by decide)
  have hs : s = false := by cases hc : s; rfl; exact absurd (h.ss hc).1 (by decide)
  have ht : t = false := by cases hc : t; rfl; rw [h.tt hc] at hs; cases hs
  subst hc2; subst hs; subst ht
  obtain ⟨fa, la, he, hp, vr', vf', fl', hS, hE, hF⟩ := r
  have E0 := h.s0 rfl
  have hm := M.lt
  refine ⟨fa, la, he, fun _ => rfl, fun h => (by cases h), fun h => (by cases h), fun h => (by cases h), fun _ _ => ⟨vr', vf', fl', hS, E0.trans hE, hF⟩, fun h => (by cases h), fun _ => hp, fun h => (by cases h), fun hp => ?_, fun hq => ?_, h.ne⟩
  · obtain ⟨q1, q2⟩ := h.pg hp
    exact ⟨q1, hE.pt E0.m q2 (show D.g ≠ mb by omega)⟩
  · obtain ⟨q1, q2⟩ := h.ph hq
    exact ⟨q1, hE.pt E0.m q2 (show D.h ≠ mb by omega)⟩
theorem Sw.call2 {fl1 : List (List Nat)} {vr1 vf1 : Value} (h : Sw w1 B mb n F vr vf rn fl ra rb true false p q s t D W) (M : MaM w1 B mb 0 vr vf rn fl) (E1 : MaE w1 W B mb 0 vr vf vr1 vf1 (rn ++ rgL ra) fl1) (r : WkR W B mb (n + ra.pl) (ext F n ra) vr1 vf1 (rn ++ rgL ra) rb e W') : ∃ fb lb, e = .returned (.agg (ptC rb.nul fb lb)) ∧ Sw w1 B mb n F vr vf rn fl ra rb true true p q s t { D with fb := fb, lb := lb } W' := by
  have hs : s = false := by cases hc : s; rfl; exact absurd (h.ss hc).2.1 (by decide)
  have ht : t = false := by cases hc : t; rfl; rw [h.tt hc] at hs; cases hs
  subst hs; subst ht
  obtain ⟨fb, lb, he, hp, vr', vf', fl', hS, hE, hF⟩ := r
  have hm := M.lt
  refine ⟨fb, lb, he, fun _ => rfl, fun h => (by cases h), fun h => (by cases h), fun h => (by cases h), fun _ h => (by cases h), fun _ => ⟨vr', vf', fl', hS, E1.trans hE, hF⟩, fun _ => h.pa rfl, fun _ => hp, fun hp => ?_, fun hq => ?_, h.ne⟩
  · obtain ⟨q1, q2⟩ := h.pg hp
    exact ⟨q1, hE.pt E1.m q2 (show D.g ≠ mb by omega)⟩
  · obtain ⟨q1, q2⟩ := h.ph hq
    exact ⟨q1, hE.pt E1.m q2 (show D.h ≠ mb by omega)⟩
theorem Sw.keep (h : Sw w1 B mb n F vr vf rn fl ra rb c1 c2 p q s t D W) (hb : Below W.heap.size W W') : Sw w1 B mb n F vr vf rn fl ra rb c1 c2 p q s t D W' :=
  ⟨h.cc, h.ss, h.tt, fun a => (h.s0 a).keep hb, fun a b => (by obtain ⟨x, y, z, S, E, r⟩ := h.s1 a b; exact ⟨x, y, z, S, E.keep hb, r⟩), fun a => (by obtain ⟨x, y, z, S, E, r⟩ := h.s2 a; exact ⟨x, y, z, S, E.keep hb, r⟩), h.pa, h.pb,
    fun hp => ⟨(h.pg hp).1, (h.pg hp).2.below hb⟩, fun hq => ⟨(h.ph hq).1, (h.ph hq).2.below hb⟩, h.ne⟩
theorem Sw.lay7 (h : Sw w1 B mb n F vr vf rn fl ra rb c1 c2 false q s t D W) : Sw w1 B mb n F vr vf rn fl ra rb c1 c2 true q s t { D with g := W.heap.size } (W.alloc (.cells (ptC false noW noW) 97)) := by
  have hs : s = false := by cases hc : s; rfl; exact absurd (h.ss hc).2.2.1 (by decide)
  have ht : t = false := by cases hc : t; rfl; rw [h.tt hc] at hs; cases hs
  subst hs; subst ht
  have hk := h.keep ((Below.refl _ _).alloc (Nat.le_refl _) (.cells (ptC false noW noW) 97))
  obtain ⟨_, _, _, _, E⟩ := h.any
  refine ⟨h.cc, fun h => (by cases h), fun h => (by cases h), hk.s0, hk.s1, hk.s2, hk.pa, hk.pb, fun _ => ⟨E.chg.size, pt_new⟩, hk.ph, fun _ hq => ?_⟩
  have := (h.ph hq).2.lt
  show W.heap.size ≠ D.h
  omega
theorem Sw.lay8 (h : Sw w1 B mb n F vr vf rn fl ra rb c1 c2 p false s t D W) : Sw w1 B mb n F vr vf rn fl ra rb c1 c2 p true s t { D with h := W.heap.size } (W.alloc (.cells (ptC false noW noW) 97)) := by
  have hs : s = false := by cases hc : s; rfl; exact absurd (h.ss hc).2.2.2 (by decide)
  have ht : t = false := by cases hc : t; rfl; rw [h.tt hc] at hs; cases hs
  subst hs; subst ht
  have hk := h.keep ((Below.refl _ _).alloc (Nat.le_refl _) (.cells (ptC false noW noW) 97))
  obtain ⟨_, _, _, _, E⟩ := h.any
  refine ⟨h.cc, fun h => (by cases h), fun h => (by cases h), hk.s0, hk.s1, hk.s2, hk.pa, hk.pb, hk.pg, fun _ => ⟨E.chg.size, pt_new⟩, fun hp _ => ?_⟩
  have := (h.pg hp).2.lt
  show D.g ≠ W.heap.size
  omega
theorem Sw.sto10 (h : Sw w1 B mb n F vr vf rn fl ra rb true true true true false false D W) (M : MaM w1 B mb 0 vr vf rn fl) :
    Sw w1 B mb n F vr vf rn fl ra rb true true true true true false D (((((((((W.setCell ⟨D.g, 0, none⟩ (.bool ra.nul)).setCell ⟨D.g, 1, none⟩ (.int .u64 ((gW D.fa 0 : Nat) : Int))).setCell ⟨D.g, 2, none⟩ (.int .u64 ((gW D.fa 1 : Nat) : Int))).setCell ⟨D.g, 3, none⟩ (.int .u64 ((gW D.fa 2 : Nat) : Int))).setCell ⟨D.g, 4, none⟩ (.int .u64 ((gW D.fa 3 : Nat) : Int))).setCell ⟨D.g, 5, none⟩ (.int .u64 ((gW D.la 0 : Nat) : Int))).setCell ⟨D.g, 6, none⟩ (.int .u64 ((gW D.la 1 : Nat) : Int))).setCell ⟨D.g, 7, none⟩ (.int .u64 ((gW D.la 2 : Nat) : Int))).setCell ⟨D.g, 8, none⟩ (.int .u64 ((gW D.la 3 : Nat) : Int))) := by
  have hm := M.lt
  obtain ⟨g1, g2⟩ := h.pg rfl
  refine ⟨fun _ => rfl, fun _ => ⟨rfl, rfl, rfl, rfl⟩, fun h => (by cases h), fun h => (by cases h), fun _ h => (by cases h), fun _ => ?_, h.pa, h.pb, fun _ => ⟨g1, g2.st9⟩, fun _ => ⟨(h.ph rfl).1, (h.ph rfl).2.keep (keep9 _ _ _ _ _ _ _ _ _ _ _ (fun e => h.ne rfl rfl e.symm))⟩, h.ne⟩
  obtain ⟨x, y, z, S, E, r⟩ := h.s2 rfl
  exact ⟨x, y, z, S, E.aside9 g1 (by omega) (own_ne E.m.rf g2 (by decide)) (own_ne E.m.rs g2 (by decide)) _ _ _ _ _ _ _ _ _, r⟩
theorem Sw.sto11 (h : Sw w1 B mb n F vr vf rn fl ra rb true true true true true false D W) (M : MaM w1 B mb 0 vr vf rn fl) :
    Sw w1 B mb n F vr vf rn fl ra rb true true true true true true D (((((((((W.setCell ⟨D.h, 0, none⟩ (.bool rb.nul)).setCell ⟨D.h, 1, none⟩ (.int .u64 ((gW D.fb 0 : Nat) : Int))).setCell ⟨D.h, 2, none⟩ (.int .u64 ((gW D.fb 1 : Nat) : Int))).setCell ⟨D.h, 3, none⟩ (.int .u64 ((gW D.fb 2 : Nat) : Int))).setCell ⟨D.h, 4, none⟩ (.int .u64 ((gW D.fb 3 : Nat) : Int))).setCell ⟨D.h, 5, none⟩ (.int .u64 ((gW D.lb 0 : Nat) : Int))).setCell ⟨D.h, 6, none⟩ (.int .u64 ((gW D.lb 1 : Nat) : Int))).setCell ⟨D.h, 7, none⟩ (.int .u64 ((gW D.lb 2 : Nat) : Int))).setCell ⟨D.h, 8, none⟩ (.int .u64 ((gW D.lb 3 : Nat) : Int))) := by
  have hm := M.lt
  obtain ⟨g1, g2⟩ := h.ph rfl
  refine ⟨fun _ => rfl, fun _ => ⟨rfl, rfl, rfl, rfl⟩, fun _ => rfl, fun h => (by cases h), fun _ h => (by cases h), fun _ => ?_, h.pa, h.pb, fun _ => ⟨(h.pg rfl).1, (h.pg rfl).2.keep (keep9 _ _ _ _ _ _ _ _ _ _ _ (h.ne rfl rfl))⟩, fun _ => ⟨g1, g2.st9⟩, h.ne⟩
  obtain ⟨x, y, z, S, E, r⟩ := h.s2 rfl
  exact ⟨x, y, z, S, E.aside9 g1 (by omega) (own_ne E.m.rf g2 (by decide)) (own_ne E.m.rs g2 (by decide)) _ _ _ _ _ _ _ _ _, r⟩
end

end Go.Proofs.YtfkljlncnfeklaaGreatDoor
