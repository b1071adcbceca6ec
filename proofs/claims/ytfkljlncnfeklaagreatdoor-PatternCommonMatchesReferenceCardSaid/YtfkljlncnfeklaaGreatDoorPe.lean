/-
  Plain mathematics and contracts of package diagram, several texts in one: XW0, XW4, XW2, XW3, XNm.
-/
import Derived.Test.YtfkljlncnfeklaaGreatDoorPd
import Derived.Laws.MakeOwn
import Derived.Laws.EntriesVeiled

/-! The machine's walk at a leaf. -/
namespace Go.Proofs.YtfkljlncnfeklaaGreatDoor
open Go.RowKit Go.Shelf
set_option linter.unusedVariables false
set_option linter.unusedSimpArgs false
attribute [local go_sem ↓] Go.wp_at_zero Go.wp_at_succ

set_option maxHeartbeats 4000000 in
set_option maxRecDepth 100000 in
theorem walk_rng (B Pb Mb Wb mb m c k : Nat) (A : Option Addr) (l : List Pn) (h : okP l) (hk : k < l.length) (c1 : pk l k = 1) : WkC B Pb Mb Wb mb m c A l k := by
  intro w F n vr vf rn fl hE hM hS hn hF h256
  have N := h.nd hk
  have hr := rxN_1 c1
  rw [hr] at h256 ⊢
  obtain ⟨b, o, eA, hb, hc⟩ := hE.nd (by omega)
  subst eA
  obtain ⟨d0, d1, d2, d3, d4⟩ := hc k hk
  have hB : B ≤ w.heap.size := by have := hM.lt; have := hM.gb; omega
  obtain ⟨_, _, _, _, _, a0, b0⟩ := N
  rw [c1] at d0
  rw [a0 (by omega)] at d3
  rw [b0 (by omega) (by omega)] at d4
  have lm := hE.lm
  have i1 : (0 : Int) ≤ (k : Int) := by omega
  have i2 : (k : Int) < (m : Int) := by omega
  have x0 := hE.bp.cell 0
  have x1 := hE.bm.cell 0
  simp at x0 x1
  have HE := Lib.hid hE
  have HM := Lib.hid hM
  have hlt := hM.lt
  have hp1 := hE.bp.lt
  have hp2 : b < w.heap.size := by omega
  have P2 := pre2 (w := w) #[.int .i64 1, .int .i64 (plo l k), .int .i64 (phi l k), .int .i64 0, .int .i64 0] 42
  have hfl : fl.length = n := hF.len
  have hsm : n < 256 := by simp only [Rx.pl] at h256; omega
  have hx : rgN ((plo l k).toNat, (phi l k).toNat) = (1, plo l k, phi l k, 0, 0) := by
    unfold rgN
    dsimp only
    rw [Int.toNat_of_nonneg (by omega), Int.toNat_of_nonneg (by omega)]
  have HX := Lib.hid hx
  have HF := Lib.hid hF
  clear hE hM hc hx hF
  go_enter Tryz.func52, Tryz.ntmps52
  go_upto_region 2 with fail
  generalize hwa : World.alloc (World.alloc w _) _ = wa
  obtain ⟨r0, b0', B0⟩ := P2 _ hwa
  clear hwa P2
  have M0 := Lib.hid (HM.out.keep B0.out)
  have E0 := Lib.hid (HE.out.keep B0.out hB)
  obtain ⟨u0, u1, u2, u3, u4⟩ : wa.cell? ⟨w.heap.size + 1, 0, none⟩ = some (.int .i64 1) ∧ wa.cell? ⟨w.heap.size + 1, 1, none⟩ = some (.int .i64 (plo l k)) ∧ wa.cell? ⟨w.heap.size + 1, 2, none⟩ = some (.int .i64 (phi l k)) ∧ wa.cell? ⟨w.heap.size + 1, 3, none⟩ = some (.int .i64 0) ∧ wa.cell? ⟨w.heap.size + 1, 4, none⟩ = some (.int .i64 0) := ⟨b0'.out.cell 0, b0'.out.cell 1, b0'.out.cell 2, b0'.out.cell 3, b0'.out.cell 4⟩
  clear x0 x1
  have x1 : wa.cell? ⟨Mb, 0, none⟩ = some (.pointer (some ⟨mb, 0, none⟩)) := E0.out.bm.cell 0
  have HP := Lib.hid (place_any B mb n vr vf rn fl (1, plo l k, phi l k, 0, 0) wa M0 (Lib.hid hn) (Lib.hid hfl) hsm)
  go_upto_region 4 with fail
  have HS := Lib.hid (MaE.same HM.out B0.out)
  have hrn : w.heap.size ≠ mb := by omega
  go_wp2_with (go_at_call 53; with_reducible refine HP.out.mono ?_; rintro e w1 ⟨he, vr', vf', hsv, hE1⟩; unfold ptC at he; subst he; have r1 := Lib.hid (hE1.pt M0.out r0.out hrn); obtain ⟨t0, t1, t2, t3, t4, t5, t6, t7, t8⟩ := r1.out.cells; have tf := r1.out.frz)
  have E9 := fun v0 v1 v2 v3 v4 v5 v6 v7 v8 => (HS.out.trans hE1).aside9 (k := w.heap.size) (Nat.le_refl _) hrn (own_ne hE1.m.rf r1.out (by decide)) (own_ne hE1.m.rs r1.out (by decide)) v0 v1 v2 v3 v4 v5 v6 v7 v8
  refine bodyPost_ret (v := .agg (ptC false (addW noW n) (addW noW n))) ?_ rfl ⟨_, _, rfl, PrR.rng _ _ hsm, vr', vf', _, hsv, ?_, HF.out.rng _ _⟩
  · rw [results_cell1 rfl]
    unfold ptC
    go_simp
  · have e : rn ++ rgL (Rx.rng (plo l k).toNat (phi l k).toNat) = rn ++ [(1, plo l k, phi l k, 0, 0)] := by rw [← HX.out]; rfl
    rw [e]
    exact E9 _ _ _ _ _ _ _ _ _


set_option maxHeartbeats 4000000 in
set_option maxRecDepth 100000 in
theorem walk_emp (B Pb Mb Wb mb m c k : Nat) (A : Option Addr) (l : List Pn) (h : okP l) (hk : k < l.length) (c1 : pk l k = 0) : WkC B Pb Mb Wb mb m c A l k := by
  intro w F n vr vf rn fl hE hM hS hn hF h256
  have N := h.nd hk
  have hr := rxN_0 c1
  rw [hr] at h256 ⊢
  obtain ⟨b, o, eA, hb, hc⟩ := hE.nd (by omega)
  subst eA
  obtain ⟨d0, d1, d2, d3, d4⟩ := hc k hk
  have hB : B ≤ w.heap.size := by have := hM.lt; have := hM.gb; omega
  rw [c1] at d0
  have lm := hE.lm
  have i1 : (0 : Int) ≤ (k : Int) := by omega
  have i2 : (k : Int) < (m : Int) := by omega
  have x0 := hE.bp.cell 0
  have x1 := hE.bm.cell 0
  simp at x0 x1
  have HE := Lib.hid hE
  have HM := Lib.hid hM
  have hlt := hM.lt
  have hp1 := hE.bp.lt
  have hp2 : b < w.heap.size := by omega
  have P2 := pre2 (w := w) #[.int .i64 0, .int .i64 (plo l k), .int .i64 (phi l k), .int .i64 (pa l k), .int .i64 (pb l k)] 42
  have HF := Lib.hid hF
  clear hE hM hc hF
  go_enter Tryz.func52, Tryz.ntmps52
  go_upto_region 2 with fail
  generalize hwa : World.alloc (World.alloc w _) _ = wa
  obtain ⟨r0, b0', B0⟩ := P2 _ hwa
  clear hwa P2
  have u0 : wa.cell? ⟨w.heap.size + 1, 0, none⟩ = some (.int .i64 0) := b0'.out.cell 0
  have HS := Lib.hid (MaE.same HM.out B0.out)
  have hrn : w.heap.size ≠ mb := by omega
  have E9 := fun v0 v1 v2 v3 v4 v5 v6 v7 v8 => HS.out.aside9 (k := w.heap.size) (Nat.le_refl _) hrn (own_ne HS.out.m.rf r0.out (by decide)) (own_ne HS.out.m.rs r0.out (by decide)) v0 v1 v2 v3 v4 v5 v6 v7 v8
  obtain ⟨t0, t1, t2, t3, t4, t5, t6, t7, t8⟩ := r0.out.cells
  have tf := r0.out.frz
  clear r0
  go_wp2
  refine bodyPost_ret (v := .agg (ptC true noW noW)) ?_ rfl ⟨_, _, rfl, PrR.emp, vr, vf, fl, hS, ?_, HF.out⟩
  · rw [results_cell1 rfl]
    unfold ptC
    go_simp
    simp [gW, noW]
  · rw [show rn ++ rgL Rx.emp = rn from List.append_nil _]
    exact E9 _ _ _ _ _ _ _ _ _

end Go.Proofs.YtfkljlncnfeklaaGreatDoor

/-! The machine's walk at a repetition. -/
namespace Go.Proofs.YtfkljlncnfeklaaGreatDoor
open Go.RowKit Go.Shelf
set_option linter.unusedVariables false
set_option linter.unusedSimpArgs false
attribute [local go_sem ↓] Go.wp_at_zero Go.wp_at_succ

set_option maxHeartbeats 4000000 in
set_option maxRecDepth 100000 in
theorem walk_rep (B Pb Mb Wb mb m c k : Nat) (A : Option Addr) (l : List Pn) (h : okP l) (hk : k < l.length) (c1 : pk l k = 4) (IA : WkC B Pb Mb Wb mb m c A l (pa l k).toNat) : WkC B Pb Mb Wb mb m c A l k := by
  intro w F n vr vf rn fl hE hM hS hn hF h256
  have N := h.nd hk
  have hr := rxN_4 h hk c1
  rw [hr] at h256 ⊢
  obtain ⟨b, o, eA, hb, hc⟩ := hE.nd (by omega)
  subst eA
  obtain ⟨d0, d1, d2, d3, d4⟩ := hc k hk
  have hB : B ≤ w.heap.size := by have := hM.lt; have := hM.gb; omega
  have a1 := N.a1
  clear N
  rw [c1] at d0
  obtain ⟨a2, a3⟩ := a1 (by omega)
  obtain ⟨j, hj⟩ : ∃ j : Nat, pa l k = (j : Int) := ⟨(pa l k).toNat, by omega⟩
  rw [hj] at d3 IA h256 ⊢
  rw [Int.toNat_natCast] at IA h256 ⊢
  generalize hra : rxN l j = ra at *
  have lm := hE.lm
  have i1 : (0 : Int) ≤ (k : Int) := by omega
  have i2 : (k : Int) < (m : Int) := by omega
  have x0 := hE.bp.cell 0
  simp at x0
  have HE := Lib.hid hE
  have HM := Lib.hid hM
  have hlt := hM.lt
  have hp1 := hE.bp.lt
  have hp2 : b < w.heap.size := by omega
  have P2 := pre2 (w := w) #[.int .i64 4, .int .i64 (plo l k), .int .i64 (phi l k), .int .i64 (j : Int), .int .i64 (pb l k)] 42
  have HF := Lib.hid hF
  have HN := Lib.hid hn
  have H256 : Hid (n + ra.pl ≤ 256) := Lib.hid (by simp only [Rx.pl] at h256; exact h256)
  have HIA := Lib.hid IA
  clear hE hM hc hF IA hn h256 h a1
  go_enter Tryz.func52, Tryz.ntmps52
  go_upto_region 2 with fail
  generalize hwa : World.alloc (World.alloc w _) _ = wa
  obtain ⟨r0, b0', B0⟩ := P2 _ hwa
  clear hwa P2
  have M0 := Lib.hid (HM.out.keep B0.out)
  have E0 := Lib.hid (HE.out.keep B0.out hB)
  have HS := Lib.hid (MaE.same HM.out B0.out)
  have hrn : w.heap.size ≠ mb := by omega
  have u0 : wa.cell? ⟨w.heap.size + 1, 0, none⟩ = some (.int .i64 4) := b0'.out.cell 0
  have u3 : wa.cell? ⟨w.heap.size + 1, 3, none⟩ = some (.int .i64 (j : Int)) := b0'.out.cell 3
  have x2 : wa.cell? ⟨Wb, 0, none⟩ = some (.func (.func 52) #[] #[.pointer (some ⟨Pb, 0, none⟩), .pointer (some ⟨Mb, 0, none⟩), .pointer (some ⟨Wb, 0, none⟩)]) := E0.out.bw.cell 0
  have HP := Lib.hid (HIA.out wa F n vr vf rn fl E0.out M0.out hS HN.out HF.out (by rw [hra]; exact H256.out))
  rw [hra] at HP
  clear x0
  go_upto_region 14 with (go_at_call 52; with_reducible refine HP.out.mono ?_; intro e w1 hw; unfold WkR at hw; obtain ⟨fa, la, he, hpr, vr1, vf1, fl1, hs1, hE1, hF1⟩ := hw; unfold ptC at he; subst he)
  have X2 := pt_x (w := w1) (wa := w1) (e := ra.nul) (f := fa) (l := la) rfl
  generalize hw2 : World.alloc w1 _ = w2
  obtain ⟨q2, B2⟩ := X2 _ hw2
  clear hw2 X2 HP HIA
  have HM1 := Lib.hid hE1
  have E2 := Lib.hid ((E0.out.step hE1 M0.out).keep B2.out (by have := hE1.chg.size; have := hE1.m.lt; have := hE1.m.gb; omega))
  have hE2 := Lib.hid (hE1.keep B2.out)
  have r2 := Lib.hid ((hE1.pt M0.out r0.out hrn).below B2.out)
  have HPR := Lib.hid hpr
  have HF1 := Lib.hid hF1
  have hgn : Hid (w1.heap.size ≠ mb) := Lib.hid (by have := hE1.m.lt; omega)
  have hgr : Hid (w1.heap.size ≠ w.heap.size) := Lib.hid (by have := (hE1.pt M0.out r0.out hrn).lt; omega)
  have hlen : Hid (∀ p ∈ els la, p < fl1.length) := Lib.hid (fun p hp => by
    have h1 := (els_pr HPR.out H256.out).1 hp
    have h2 := ra.lst_in _ _ h1
    have h3 := HF1.out.len
    omega)
  have HC := Lib.hid (conn_pt E2.out hE2.out.m hs1 q2.out q2.out hgn.out hgn.out hF1.all hpr.l4 hpr.f4 hlen.out)
  clear x2 u0 u3 hE1 hpr hF1
  have x1 : w2.cell? ⟨Mb, 0, none⟩ = some (.pointer (some ⟨mb, 0, none⟩)) := E2.out.bm.cell 0
  have HG : Hid (wa.heap.size ≤ w1.heap.size) := Lib.hid HM1.out.chg.size
  obtain ⟨g, hg⟩ : ∃ g, w1.heap.size = g := ⟨_, rfl⟩
  rw [hg] at q2 hgn hgr HC HG
  try simp only [hg]
  clear hg B2
  go_upto_region 15 with (go_at_call 54; go_loud (with_reducible refine HC.out.mono ?_; rintro e w3 ⟨rfl, hE3⟩))
  have q3 := Lib.hid (hE3.pt hE2.out.m q2.out hgn.out)
  have r3 := Lib.hid (hE3.pt hE2.out.m r2.out hrn)
  have E3 := Lib.hid ((HS.out.trans hE2.out).trans hE3)
  have z0 := q3.out.cell 0
  have zf := q3.out.frz 0
  have q4 := Lib.hid (q3.out.emp true)
  have r4 : Hid (PtB (w3.setCell ⟨g, 0, none⟩ (.bool true)) w.heap.size false noW noW) := Lib.hid (r3.out.keep (hp_set w3 g 0 _ (fun e => hgr.out e.symm)))
  have E4 := Lib.hid (E3.out.asidePt q3.out (by have := B0.out.size; have := HM1.out.chg.size; have := hgr.out; have := HG.out; omega) hgn.out 0 (.bool true))
  simp [ptC] at z0
  clear hE3 q3 r3 E3 q2 r2 hE2 HC
  go_upto_region 16 with fail
  generalize World.setCell w3 _ _ = w4 at *
  have E9 := fun v0 v1 v2 v3 v4 v5 v6 v7 v8 => E4.out.aside9 (k := w.heap.size) (Nat.le_refl _) hrn (own_ne E4.out.m.rf r4.out (by decide)) (own_ne E4.out.m.rs r4.out (by decide)) v0 v1 v2 v3 v4 v5 v6 v7 v8
  obtain ⟨s0, s1, s2, s3, s4, s5, s6, s7, s8⟩ := q4.out.cells
  obtain ⟨t0, t1, t2, t3, t4, t5, t6, t7, t8⟩ := r4.out.cells
  have tf := r4.out.frz
  clear q4 r4 E4 z0 zf
  go_wp2
  refine bodyPost_ret (v := .agg (ptC true fa la)) ?_ rfl ⟨_, _, rfl, HPR.out.rep, vr1, vf1, _, hs1, ?_, FlR.rep HF1.out HPR.out H256.out⟩
  · rw [results_cell1 rfl]
    unfold ptC
    go_simp
  · exact E9 _ _ _ _ _ _ _ _ _

end Go.Proofs.YtfkljlncnfeklaaGreatDoor

/-! The machine's walk at a sequence. (Written by w2gen.py.) -/
namespace Go.Proofs.YtfkljlncnfeklaaGreatDoor
open Go.RowKit Go.Shelf
set_option linter.unusedVariables false
set_option linter.unusedSimpArgs false
attribute [local go_sem ↓] Go.wp_at_zero Go.wp_at_succ

set_option maxHeartbeats 8000000 in
set_option maxRecDepth 100000 in
theorem walk_seq (B Pb Mb Wb mb m c k : Nat) (A : Option Addr) (l : List Pn) (h : okP l) (hk : k < l.length) (c1 : pk l k = 2) (IA : WkC B Pb Mb Wb mb m c A l (pa l k).toNat) (IB : WkC B Pb Mb Wb mb m c A l (pb l k).toNat) : WkC B Pb Mb Wb mb m c A l k := by
  intro w F n vr vf rn fl hE hM hS hn hF h256
  have N := h.nd hk
  have hr := rxN_2 h hk c1
  rw [hr] at h256 ⊢
  obtain ⟨b, o, eA, hb, hc⟩ := hE.nd (by omega)
  subst eA
  obtain ⟨d0, d1, d2, d3, d4⟩ := hc k hk
  have hB : B ≤ w.heap.size := by have := hM.lt; have := hM.gb; omega
  have a1 := N.a1
  have a1b := N.b1
  clear N
  rw [c1] at d0
  obtain ⟨a2, a3⟩ := a1 (by omega)
  obtain ⟨a4, a5⟩ := a1b (by omega)
  obtain ⟨j, hj⟩ : ∃ j : Nat, pa l k = (j : Int) := ⟨(pa l k).toNat, by omega⟩
  obtain ⟨i, hi⟩ : ∃ i : Nat, pb l k = (i : Int) := ⟨(pb l k).toNat, by omega⟩
  rw [hj] at d3 IA h256 ⊢
  rw [hi] at d4 IB h256 ⊢
  rw [Int.toNat_natCast] at IA IB
  rw [Int.toNat_natCast, Int.toNat_natCast] at h256 ⊢
  unfold WkC at IA IB
  generalize rxN l j = ra at *
  generalize rxN l i = rb at *
  have lm := hE.lm
  have i1 : (0 : Int) ≤ (k : Int) := by omega
  have i2 : (k : Int) < (m : Int) := by omega
  have x0 := hE.bp.cell 0
  simp at x0
  have HE := Lib.hid hE
  have HM := Lib.hid hM
  have hlt := hM.lt
  have hp1 := hE.bp.lt
  have hp2 : b < w.heap.size := by omega
  have P2 := pre2 (w := w) #[.int .i64 2, .int .i64 (plo l k), .int .i64 (phi l k), .int .i64 (j : Int), .int .i64 (i : Int)] 42
  have HF := Lib.hid hF
  have HN := Lib.hid hn
  have H256 : Hid (n + ra.pl + rb.pl ≤ 256) := Lib.hid (by simp only [Rx.pl] at h256; omega)
  have HIA := Lib.hid IA
  have HIB := Lib.hid IB
  clear hE hM hc hF IA IB hn h256 h a1 a1b
  go_enter Tryz.func52, Tryz.ntmps52
  go_upto_region 2 with fail
  generalize hwa : World.alloc (World.alloc w _) _ = wa
  obtain ⟨r0, b0', B0⟩ := P2 _ hwa
  clear hwa P2
  have M0 := Lib.hid (HM.out.keep B0.out)
  have E0 := Lib.hid (HE.out.keep B0.out hB)
  have HS := Lib.hid (MaE.same HM.out B0.out)
  have hrn : w.heap.size ≠ mb := by omega
  have hnn : w.heap.size + 1 ≠ mb := by omega
  have HRL := Lib.hid r0.out.lt
  have HNL := Lib.hid b0'.out.lt
  have HOW : Hid (∀ k, w.heap.size ≤ k → vr.ownBlock ≠ some k ∧ vf.ownBlock ≠ some k) := Lib.hid (fun k hk => ⟨fun e => by have := (HM.out.rf.lt k e).2; omega, fun e => by have := (HM.out.rs.lt k e).2; omega⟩)
  have HCE : Hid (∀ (W : World) (vr' vf' : Value) (rn' : List Pn) (fl' : List (List Nat)), MaE wa W B mb 0 vr vf vr' vf' rn' fl' → WkE W B Pb Mb Wb mb m c (some ⟨b, o, none⟩) l ∧ PtB W w.heap.size false noW noW ∧
      W.cell? ⟨Wb, 0, none⟩ = some (.func (.func 52) #[] #[.pointer (some ⟨Pb, 0, none⟩), .pointer (some ⟨Mb, 0, none⟩), .pointer (some ⟨Wb, 0, none⟩)]) ∧ W.cell? ⟨w.heap.size + 1, 3, none⟩ = some (.int .i64 (j : Int)) ∧ W.cell? ⟨w.heap.size + 1, 4, none⟩ = some (.int .i64 (i : Int))) := Lib.hid (fun W vr' vf' rn' fl' E => by
    have e1 := E0.out.step E M0.out
    have hk : Bx W (w.heap.size + 1) _ _ := (E.chg.block (w.heap.size + 1) HNL.out (by
      rintro (e | e | e)
      · exact hnn e
      · exact (HOW.out _ (by omega)).1 e
      · exact (HOW.out _ (by omega)).2 e)).trans b0'.out
    exact ⟨e1, E.pt M0.out r0.out hrn, e1.bw.cell 0, hk.cell 3, hk.cell 4⟩)
  have HC1 : Hid (∀ W : World, MaE wa W B mb 0 vr vf vr vf rn fl → Calls Tryz.prog 52 #[.int .i64 (j : Int), .pointer (some ⟨Pb, 0, none⟩), .pointer (some ⟨Mb, 0, none⟩), .pointer (some ⟨Wb, 0, none⟩)] W (WkR W B mb n F vr vf rn ra)) := Lib.hid (fun W E => HIA.out W F n vr vf rn fl (HCE.out _ _ _ _ _ E).1 E.m hS HN.out HF.out (by have := H256.out; omega))
  have HC2 : Hid (∀ (W : World) (vr1 vf1 : Value) (fl1 : List (List Nat)), Sm vf1 → MaE wa W B mb 0 vr vf vr1 vf1 (rn ++ rgL ra) fl1 → FlR F n ra fl1 → Calls Tryz.prog 52 #[.int .i64 (i : Int), .pointer (some ⟨Pb, 0, none⟩), .pointer (some ⟨Mb, 0, none⟩), .pointer (some ⟨Wb, 0, none⟩)] W (WkR W B mb (n + ra.pl) (ext F n ra) vr1 vf1 (rn ++ rgL ra) rb)) := Lib.hid (fun W vr1 vf1 fl1 S E hF1 => HIB.out W (ext F n ra) (n + ra.pl) vr1 vf1 (rn ++ rgL ra) fl1 (HCE.out _ _ _ _ _ E).1 E.m S (by rw [List.length_append, rgL_len, HN.out]) hF1.to (by have := H256.out; omega))
  have u0 : wa.cell? ⟨w.heap.size + 1, 0, none⟩ = some (.int .i64 2) := b0'.out.cell 0
  clear x0 HIA HIB
  go_upto_region 6 with fail
  clear u0
  generalize hH : w.heap.size = H at *
  refine wp_region_any (by kernel_rfl) ?_
  change wpAny _ _ _ _ _ _ _ (World.drew _)
  refine wpAny_named (fun a0 ha0 => ?_)
  refine wpAny_inv (fun l a' w' => ∃ (b : Nat → Bool) (v : Nat → Value) (D : PbD), l = #[b 0, b 1, b 2, b 3, b 4, b 5, b 6, b 7, b 8, b 9, b 10, b 11] ∧ a' = ((((((((((a0.put (some 25) (v 0)).put (some 26) (v 1)).put (some 27) (v 2)).put (some 28) (v 3)).put (some 29) (v 4)).put (some 30) (v 5)).put (some 31) (v 6)).put (some 32) (v 7)).put (some 7) (v 8)).put (some 8) (v 9)) ∧ ((b 0 = true → v 0 = .func (.func 52) #[] #[.pointer (some ⟨Pb, 0, none⟩), .pointer (some ⟨Mb, 0, none⟩), .pointer (some ⟨Wb, 0, none⟩)]) ∧ (b 1 = true → v 1 = .pointer (some ⟨H + 1, 3, none⟩)) ∧ (b 2 = true → v 2 = .int .i64 (j : Int)) ∧ (b 3 = true → v 3 = .agg (ptC ra.nul D.fa D.la)) ∧ (b 4 = true → v 4 = .func (.func 52) #[] #[.pointer (some ⟨Pb, 0, none⟩), .pointer (some ⟨Mb, 0, none⟩), .pointer (some ⟨Wb, 0, none⟩)]) ∧ (b 5 = true → v 5 = .pointer (some ⟨H + 1, 4, none⟩)) ∧ (b 6 = true → v 6 = .int .i64 (i : Int)) ∧ (b 7 = true → v 7 = .agg (ptC rb.nul D.fb D.lb)) ∧ (b 8 = true → v 8 = .pointer (some ⟨D.g, 0, none⟩)) ∧ (b 9 = true → v 9 = .pointer (some ⟨D.h, 0, none⟩))) ∧ Sw wa B mb n F vr vf rn fl ra rb (b 3) (b 7) (b 8) (b 9) (b 10) (b 11) D w') ?_ ?_ _ _ _ _ ⟨fun _ => false, fun _ => undef, ⟨[], [], [], [], 0, 0⟩, rfl, by subst ha0; (simp only [Act.put, List.setIfInBounds_toArray, List.set_cons_succ, List.set_cons_zero] <;> rfl), ⟨fun h => (by cases h), fun h => (by cases h), fun h => (by cases h), fun h => (by cases h), fun h => (by cases h), fun h => (by cases h), fun h => (by cases h), fun h => (by cases h), fun h => (by cases h), fun h => (by cases h)⟩, Sw.start M0.out (Below.refl _ _).drew _⟩ (by rfl) (by decide)
  rotate_left
  · rintro l' a' w' ⟨b, v, D, rfl, rfl, ⟨v0, v1, v2, v3, v4, v5, v6, v7, v8, v9⟩, hW⟩ ii hi'
    obtain ⟨h0, oo, ho, hall⟩ := mem_ready.1 hi'
    have hlt' : ii < 12 := (Array.getElem?_eq_some_iff.1 ho).1
    clear hi'
    rcases (by omega : ii = 0 ∨ ii = 1 ∨ ii = 2 ∨ ii = 3 ∨ ii = 4 ∨ ii = 5 ∨ ii = 6 ∨ ii = 7 ∨ ii = 8 ∨ ii = 9 ∨ ii = 10 ∨ ii = 11) with rfl | rfl | rfl | rfl | rfl | rfl | rfl | rfl | rfl | rfl | rfl | rfl
    · replace h0 : b 0 = false := h0
      have ho' := (Option.some.inj ho).symm
      subst ho'
      clear hall ho
      obtain ⟨_, _, _, _, hX⟩ := hW.any
      have x0 := (HCE.out _ _ _ _ _ hX).2.2.1
      clear hX
      subst ha0
      refine wpOp_step rfl (fun K hK => ?_)
      go_simp
      exact hK _ _ ⟨up1 b 0 true, up1 v 0 (.func (.func 52) #[] #[.pointer (some ⟨Pb, 0, none⟩), .pointer (some ⟨Mb, 0, none⟩), .pointer (some ⟨Wb, 0, none⟩)]), D, rfl, by (simp only [Act.put, List.setIfInBounds_toArray, List.set_cons_succ, List.set_cons_zero, up1] <;> rfl), ⟨fun _ => up1_at _ _ _, fun hb => (up1_ne _ _ (by decide)).trans (v1 (by rw [up1_ne _ _ (by decide)] at hb; exact hb)), fun hb => (up1_ne _ _ (by decide)).trans (v2 (by rw [up1_ne _ _ (by decide)] at hb; exact hb)), fun hb => (up1_ne _ _ (by decide)).trans (v3 (by rw [up1_ne _ _ (by decide)] at hb; exact hb)), fun hb => (up1_ne _ _ (by decide)).trans (v4 (by rw [up1_ne _ _ (by decide)] at hb; exact hb)), fun hb => (up1_ne _ _ (by decide)).trans (v5 (by rw [up1_ne _ _ (by decide)] at hb; exact hb)), fun hb => (up1_ne _ _ (by decide)).trans (v6 (by rw [up1_ne _ _ (by decide)] at hb; exact hb)), fun hb => (up1_ne _ _ (by decide)).trans (v7 (by rw [up1_ne _ _ (by decide)] at hb; exact hb)), fun hb => (up1_ne _ _ (by decide)).trans (v8 (by rw [up1_ne _ _ (by decide)] at hb; exact hb)), fun hb => (up1_ne _ _ (by decide)).trans (v9 (by rw [up1_ne _ _ (by decide)] at hb; exact hb))⟩, hW⟩
    · replace h0 : b 1 = false := h0
      have ho' := (Option.some.inj ho).symm
      subst ho'
      clear hall ho
      subst ha0
      refine wpOp_step rfl (fun K hK => ?_)
      go_simp
      exact hK _ _ ⟨up1 b 1 true, up1 v 1 (.pointer (some ⟨H + 1, 3, none⟩)), D, rfl, by (simp only [Act.put, List.setIfInBounds_toArray, List.set_cons_succ, List.set_cons_zero, up1] <;> rfl), ⟨fun hb => (up1_ne _ _ (by decide)).trans (v0 (by rw [up1_ne _ _ (by decide)] at hb; exact hb)), fun _ => up1_at _ _ _, fun hb => (up1_ne _ _ (by decide)).trans (v2 (by rw [up1_ne _ _ (by decide)] at hb; exact hb)), fun hb => (up1_ne _ _ (by decide)).trans (v3 (by rw [up1_ne _ _ (by decide)] at hb; exact hb)), fun hb => (up1_ne _ _ (by decide)).trans (v4 (by rw [up1_ne _ _ (by decide)] at hb; exact hb)), fun hb => (up1_ne _ _ (by decide)).trans (v5 (by rw [up1_ne _ _ (by decide)] at hb; exact hb)), fun hb => (up1_ne _ _ (by decide)).trans (v6 (by rw [up1_ne _ _ (by decide)] at hb; exact hb)), fun hb => (up1_ne _ _ (by decide)).trans (v7 (by rw [up1_ne _ _ (by decide)] at hb; exact hb)), fun hb => (up1_ne _ _ (by decide)).trans (v8 (by rw [up1_ne _ _ (by decide)] at hb; exact hb)), fun hb => (up1_ne _ _ (by decide)).trans (v9 (by rw [up1_ne _ _ (by decide)] at hb; exact hb))⟩, hW⟩
    · replace h0 : b 2 = false := h0
      have ho' := (Option.some.inj ho).symm
      subst ho'
      have k1 : b 1 = true := hall ⟨1, .data⟩ (by simp) rfl
      clear hall ho
      obtain ⟨_, _, _, _, hX⟩ := hW.any
      have x0 := (HCE.out _ _ _ _ _ hX).2.2.2.1
      clear hX
      have e1 := v1 k1
      clear k1
      subst ha0
      refine wpOp_step rfl (fun K hK => ?_)
      generalize hvv : v 1 = vv at *
      subst e1
      go_simp
      exact hK _ _ ⟨up1 b 2 true, up1 v 2 (.int .i64 (j : Int)), D, rfl, by (simp only [Act.put, List.setIfInBounds_toArray, List.set_cons_succ, List.set_cons_zero, up1, hvv] <;> rfl), ⟨fun hb => (up1_ne _ _ (by decide)).trans (v0 (by rw [up1_ne _ _ (by decide)] at hb; exact hb)), fun _ => (up1_ne _ _ (by decide)).trans hvv, fun _ => up1_at _ _ _, fun hb => (up1_ne _ _ (by decide)).trans (v3 (by rw [up1_ne _ _ (by decide)] at hb; exact hb)), fun hb => (up1_ne _ _ (by decide)).trans (v4 (by rw [up1_ne _ _ (by decide)] at hb; exact hb)), fun hb => (up1_ne _ _ (by decide)).trans (v5 (by rw [up1_ne _ _ (by decide)] at hb; exact hb)), fun hb => (up1_ne _ _ (by decide)).trans (v6 (by rw [up1_ne _ _ (by decide)] at hb; exact hb)), fun hb => (up1_ne _ _ (by decide)).trans (v7 (by rw [up1_ne _ _ (by decide)] at hb; exact hb)), fun hb => (up1_ne _ _ (by decide)).trans (v8 (by rw [up1_ne _ _ (by decide)] at hb; exact hb)), fun hb => (up1_ne _ _ (by decide)).trans (v9 (by rw [up1_ne _ _ (by decide)] at hb; exact hb))⟩, hW⟩
    · replace h0 : b 3 = false := h0
      have ho' := (Option.some.inj ho).symm
      subst ho'
      have k0 : b 0 = true := hall ⟨0, .data⟩ (by simp) rfl
      have k2 : b 2 = true := hall ⟨2, .data⟩ (by simp) rfl
      clear hall ho
      have e1 := v0 k0
      have e2 := v2 k2
      rw [h0] at hW
      have HC := Lib.hid (HC1.out w' (hW.s0 rfl))
      clear k0 k2
      subst ha0
      refine wpOp_step rfl (fun K hK => ?_)
      generalize hvv : v 0 = vv at *
      generalize hvw : v 2 = vw at *
      subst e1
      subst e2
      go_simp
      go_at_call 52
      with_reducible refine HC.out.mono ?_
      intro e w9 hw
      obtain ⟨fa, la, rfl, hW9⟩ := hW.call1 M0.out hw
      go_simp
      refine hK _ _ ⟨up1 b 3 true, up1 v 3 (.agg (ptC ra.nul fa la)), { D with fa := fa, la := la }, rfl, by (simp only [Act.put, List.setIfInBounds_toArray, List.set_cons_succ, List.set_cons_zero, up1, hvv, hvw] <;> rfl), ⟨fun _ => (up1_ne _ _ (by decide)).trans hvv, fun hb => (up1_ne _ _ (by decide)).trans (v1 (by rw [up1_ne _ _ (by decide)] at hb; exact hb)), fun _ => (up1_ne _ _ (by decide)).trans hvw, fun _ => up1_at _ _ _, fun hb => (up1_ne _ _ (by decide)).trans (v4 (by rw [up1_ne _ _ (by decide)] at hb; exact hb)), fun hb => (up1_ne _ _ (by decide)).trans (v5 (by rw [up1_ne _ _ (by decide)] at hb; exact hb)), fun hb => (up1_ne _ _ (by decide)).trans (v6 (by rw [up1_ne _ _ (by decide)] at hb; exact hb)), fun hb => (up1_ne _ _ (by decide)).trans (v7 (by rw [up1_ne _ _ (by decide)] at hb; exact hb)), fun hb => (up1_ne _ _ (by decide)).trans (v8 (by rw [up1_ne _ _ (by decide)] at hb; exact hb)), fun hb => (up1_ne _ _ (by decide)).trans (v9 (by rw [up1_ne _ _ (by decide)] at hb; exact hb))⟩, ?_⟩
      exact hW9
    · replace h0 : b 4 = false := h0
      have ho' := (Option.some.inj ho).symm
      subst ho'
      clear hall ho
      obtain ⟨_, _, _, _, hX⟩ := hW.any
      have x0 := (HCE.out _ _ _ _ _ hX).2.2.1
      clear hX
      subst ha0
      refine wpOp_step rfl (fun K hK => ?_)
      go_simp
      exact hK _ _ ⟨up1 b 4 true, up1 v 4 (.func (.func 52) #[] #[.pointer (some ⟨Pb, 0, none⟩), .pointer (some ⟨Mb, 0, none⟩), .pointer (some ⟨Wb, 0, none⟩)]), D, rfl, by (simp only [Act.put, List.setIfInBounds_toArray, List.set_cons_succ, List.set_cons_zero, up1] <;> rfl), ⟨fun hb => (up1_ne _ _ (by decide)).trans (v0 (by rw [up1_ne _ _ (by decide)] at hb; exact hb)), fun hb => (up1_ne _ _ (by decide)).trans (v1 (by rw [up1_ne _ _ (by decide)] at hb; exact hb)), fun hb => (up1_ne _ _ (by decide)).trans (v2 (by rw [up1_ne _ _ (by decide)] at hb; exact hb)), fun hb => (up1_ne _ _ (by decide)).trans (v3 (by rw [up1_ne _ _ (by decide)] at hb; exact hb)), fun _ => up1_at _ _ _, fun hb => (up1_ne _ _ (by decide)).trans (v5 (by rw [up1_ne _ _ (by decide)] at hb; exact hb)), fun hb => (up1_ne _ _ (by decide)).trans (v6 (by rw [up1_ne _ _ (by decide)] at hb; exact hb)), fun hb => (up1_ne _ _ (by decide)).trans (v7 (by rw [up1_ne _ _ (by decide)] at hb; exact hb)), fun hb => (up1_ne _ _ (by decide)).trans (v8 (by rw [up1_ne _ _ (by decide)] at hb; exact hb)), fun hb => (up1_ne _ _ (by decide)).trans (v9 (by rw [up1_ne _ _ (by decide)] at hb; exact hb))⟩, hW⟩
    · replace h0 : b 5 = false := h0
      have ho' := (Option.some.inj ho).symm
      subst ho'
      clear hall ho
      subst ha0
      refine wpOp_step rfl (fun K hK => ?_)
      go_simp
      exact hK _ _ ⟨up1 b 5 true, up1 v 5 (.pointer (some ⟨H + 1, 4, none⟩)), D, rfl, by (simp only [Act.put, List.setIfInBounds_toArray, List.set_cons_succ, List.set_cons_zero, up1] <;> rfl), ⟨fun hb => (up1_ne _ _ (by decide)).trans (v0 (by rw [up1_ne _ _ (by decide)] at hb; exact hb)), fun hb => (up1_ne _ _ (by decide)).trans (v1 (by rw [up1_ne _ _ (by decide)] at hb; exact hb)), fun hb => (up1_ne _ _ (by decide)).trans (v2 (by rw [up1_ne _ _ (by decide)] at hb; exact hb)), fun hb => (up1_ne _ _ (by decide)).trans (v3 (by rw [up1_ne _ _ (by decide)] at hb; exact hb)), fun hb => (up1_ne _ _ (by decide)).trans (v4 (by rw [up1_ne _ _ (by decide)] at hb; exact hb)), fun _ => up1_at _ _ _, fun hb => (up1_ne _ _ (by decide)).trans (v6 (by rw [up1_ne _ _ (by decide)] at hb; exact hb)), fun hb => (up1_ne _ _ (by decide)).trans (v7 (by rw [up1_ne _ _ (by decide)] at hb; exact hb)), fun hb => (up1_ne _ _ (by decide)).trans (v8 (by rw [up1_ne _ _ (by decide)] at hb; exact hb)), fun hb => (up1_ne _ _ (by decide)).trans (v9 (by rw [up1_ne _ _ (by decide)] at hb; exact hb))⟩, hW⟩
    · replace h0 : b 6 = false := h0
      have ho' := (Option.some.inj ho).symm
      subst ho'
      have k5 : b 5 = true := hall ⟨5, .data⟩ (by simp) rfl
      clear hall ho
      obtain ⟨_, _, _, _, hX⟩ := hW.any
      have x0 := (HCE.out _ _ _ _ _ hX).2.2.2.2
      clear hX
      have e1 := v5 k5
      clear k5
      subst ha0
      refine wpOp_step rfl (fun K hK => ?_)
      generalize hvv : v 5 = vv at *
      subst e1
      go_simp
      exact hK _ _ ⟨up1 b 6 true, up1 v 6 (.int .i64 (i : Int)), D, rfl, by (simp only [Act.put, List.setIfInBounds_toArray, List.set_cons_succ, List.set_cons_zero, up1, hvv] <;> rfl), ⟨fun hb => (up1_ne _ _ (by decide)).trans (v0 (by rw [up1_ne _ _ (by decide)] at hb; exact hb)), fun hb => (up1_ne _ _ (by decide)).trans (v1 (by rw [up1_ne _ _ (by decide)] at hb; exact hb)), fun hb => (up1_ne _ _ (by decide)).trans (v2 (by rw [up1_ne _ _ (by decide)] at hb; exact hb)), fun hb => (up1_ne _ _ (by decide)).trans (v3 (by rw [up1_ne _ _ (by decide)] at hb; exact hb)), fun hb => (up1_ne _ _ (by decide)).trans (v4 (by rw [up1_ne _ _ (by decide)] at hb; exact hb)), fun _ => (up1_ne _ _ (by decide)).trans hvv, fun _ => up1_at _ _ _, fun hb => (up1_ne _ _ (by decide)).trans (v7 (by rw [up1_ne _ _ (by decide)] at hb; exact hb)), fun hb => (up1_ne _ _ (by decide)).trans (v8 (by rw [up1_ne _ _ (by decide)] at hb; exact hb)), fun hb => (up1_ne _ _ (by decide)).trans (v9 (by rw [up1_ne _ _ (by decide)] at hb; exact hb))⟩, hW⟩
    · replace h0 : b 7 = false := h0
      have ho' := (Option.some.inj ho).symm
      subst ho'
      have k4 : b 4 = true := hall ⟨4, .data⟩ (by simp) rfl
      have k6 : b 6 = true := hall ⟨6, .data⟩ (by simp) rfl
      have k3 : b 3 = true := hall ⟨3, .chain⟩ (by simp) rfl
      clear hall ho
      have e1 := v4 k4
      have e2 := v6 k6
      rw [h0, k3] at hW
      obtain ⟨vr1, vf1, fl1, hS1, hE1, hF1⟩ := hW.s1 rfl rfl
      have HC := Lib.hid (HC2.out w' vr1 vf1 fl1 hS1 hE1 hF1)
      have K3 := Lib.hid k3
      clear k3 k4 k6
      subst ha0
      refine wpOp_step rfl (fun K hK => ?_)
      generalize hvv : v 4 = vv at *
      generalize hvw : v 6 = vw at *
      subst e1
      subst e2
      go_simp
      go_at_call 52
      with_reducible refine HC.out.mono ?_
      intro e w9 hw
      obtain ⟨fb, lb, rfl, hW9⟩ := hW.call2 M0.out hE1 hw
      go_simp
      refine hK _ _ ⟨up1 b 7 true, up1 v 7 (.agg (ptC rb.nul fb lb)), { D with fb := fb, lb := lb }, rfl, by (simp only [Act.put, List.setIfInBounds_toArray, List.set_cons_succ, List.set_cons_zero, up1, hvv, hvw] <;> rfl), ⟨fun hb => (up1_ne _ _ (by decide)).trans (v0 (by rw [up1_ne _ _ (by decide)] at hb; exact hb)), fun hb => (up1_ne _ _ (by decide)).trans (v1 (by rw [up1_ne _ _ (by decide)] at hb; exact hb)), fun hb => (up1_ne _ _ (by decide)).trans (v2 (by rw [up1_ne _ _ (by decide)] at hb; exact hb)), fun hb => (up1_ne _ _ (by decide)).trans (v3 (by rw [up1_ne _ _ (by decide)] at hb; exact hb)), fun _ => (up1_ne _ _ (by decide)).trans hvv, fun hb => (up1_ne _ _ (by decide)).trans (v5 (by rw [up1_ne _ _ (by decide)] at hb; exact hb)), fun _ => (up1_ne _ _ (by decide)).trans hvw, fun _ => up1_at _ _ _, fun hb => (up1_ne _ _ (by decide)).trans (v8 (by rw [up1_ne _ _ (by decide)] at hb; exact hb)), fun hb => (up1_ne _ _ (by decide)).trans (v9 (by rw [up1_ne _ _ (by decide)] at hb; exact hb))⟩, ?_⟩
      show Sw _ _ _ _ _ _ _ _ _ _ _ (b 3) _ _ _ _ _ _ _
      rw [K3.out]
      exact hW9
    · replace h0 : b 8 = false := h0
      have ho' := (Option.some.inj ho).symm
      subst ho'
      clear hall ho
      rw [h0] at hW
      have hW9 := hW.lay7
      subst ha0
      refine wpOp_step rfl (fun K hK => ?_)
      go_simp
      refine hK _ _ ⟨up1 b 8 true, up1 v 8 (.pointer (some ⟨w'.heap.size, 0, none⟩)), { D with g := w'.heap.size }, rfl, by (simp only [Act.put, List.setIfInBounds_toArray, List.set_cons_succ, List.set_cons_zero, up1] <;> rfl), ⟨fun hb => (up1_ne _ _ (by decide)).trans (v0 (by rw [up1_ne _ _ (by decide)] at hb; exact hb)), fun hb => (up1_ne _ _ (by decide)).trans (v1 (by rw [up1_ne _ _ (by decide)] at hb; exact hb)), fun hb => (up1_ne _ _ (by decide)).trans (v2 (by rw [up1_ne _ _ (by decide)] at hb; exact hb)), fun hb => (up1_ne _ _ (by decide)).trans (v3 (by rw [up1_ne _ _ (by decide)] at hb; exact hb)), fun hb => (up1_ne _ _ (by decide)).trans (v4 (by rw [up1_ne _ _ (by decide)] at hb; exact hb)), fun hb => (up1_ne _ _ (by decide)).trans (v5 (by rw [up1_ne _ _ (by decide)] at hb; exact hb)), fun hb => (up1_ne _ _ (by decide)).trans (v6 (by rw [up1_ne _ _ (by decide)] at hb; exact hb)), fun hb => (up1_ne _ _ (by decide)).trans (v7 (by rw [up1_ne _ _ (by decide)] at hb; exact hb)), fun _ => up1_at _ _ _, fun hb => (up1_ne _ _ (by decide)).trans (v9 (by rw [up1_ne _ _ (by decide)] at hb; exact hb))⟩, ?_⟩
      exact hW9
    · replace h0 : b 9 = false := h0
      have ho' := (Option.some.inj ho).symm
      subst ho'
      clear hall ho
      rw [h0] at hW
      have hW9 := hW.lay8
      subst ha0
      refine wpOp_step rfl (fun K hK => ?_)
      go_simp
      refine hK _ _ ⟨up1 b 9 true, up1 v 9 (.pointer (some ⟨w'.heap.size, 0, none⟩)), { D with h := w'.heap.size }, rfl, by (simp only [Act.put, List.setIfInBounds_toArray, List.set_cons_succ, List.set_cons_zero, up1] <;> rfl), ⟨fun hb => (up1_ne _ _ (by decide)).trans (v0 (by rw [up1_ne _ _ (by decide)] at hb; exact hb)), fun hb => (up1_ne _ _ (by decide)).trans (v1 (by rw [up1_ne _ _ (by decide)] at hb; exact hb)), fun hb => (up1_ne _ _ (by decide)).trans (v2 (by rw [up1_ne _ _ (by decide)] at hb; exact hb)), fun hb => (up1_ne _ _ (by decide)).trans (v3 (by rw [up1_ne _ _ (by decide)] at hb; exact hb)), fun hb => (up1_ne _ _ (by decide)).trans (v4 (by rw [up1_ne _ _ (by decide)] at hb; exact hb)), fun hb => (up1_ne _ _ (by decide)).trans (v5 (by rw [up1_ne _ _ (by decide)] at hb; exact hb)), fun hb => (up1_ne _ _ (by decide)).trans (v6 (by rw [up1_ne _ _ (by decide)] at hb; exact hb)), fun hb => (up1_ne _ _ (by decide)).trans (v7 (by rw [up1_ne _ _ (by decide)] at hb; exact hb)), fun hb => (up1_ne _ _ (by decide)).trans (v8 (by rw [up1_ne _ _ (by decide)] at hb; exact hb)), fun _ => up1_at _ _ _⟩, ?_⟩
      exact hW9
    · replace h0 : b 10 = false := h0
      have ho' := (Option.some.inj ho).symm
      subst ho'
      have k8 : b 8 = true := hall ⟨8, .data⟩ (by simp) rfl
      have k3 : b 3 = true := hall ⟨3, .data⟩ (by simp) rfl
      have k7 : b 7 = true := hall ⟨7, .chain⟩ (by simp) rfl
      have k9 : b 9 = true := hall ⟨9, .phase⟩ (by simp) rfl
      clear hall ho
      rw [h0, k8, k3, k7, k9] at hW
      have h11 : b 11 = false := by cases hc : b 11; rfl; exact absurd (hW.tt hc) (by decide)
      rw [h11] at hW
      have hW9 := hW.sto10 M0.out
      obtain ⟨_, hX⟩ := hW.pg rfl
      obtain ⟨t0, t1, t2, t3, t4, t5, t6, t7, t8⟩ := hX.cells
      have tf := hX.frz
      clear hX
      have e1 := v8 k8
      have e2 := v3 k3
      unfold ptC at e2
      have K8 := Lib.hid k8
      clear k8
      have K3 := Lib.hid k3
      clear k3
      have K7 := Lib.hid k7
      clear k7
      have K9 := Lib.hid k9
      clear k9
      subst ha0
      refine wpOp_step rfl (fun K hK => ?_)
      generalize hvv : v 8 = vv at *
      generalize hvw : v 3 = vw at *
      subst e1
      subst e2
      go_simp
      refine hK _ _ ⟨up1 b 10 true, v, D, rfl, by (simp only [Act.put, List.setIfInBounds_toArray, List.set_cons_succ, List.set_cons_zero, hvv, hvw] <;> rfl), ⟨fun hb => ((v0 (by rw [up1_ne _ _ (by decide)] at hb; exact hb))), fun hb => ((v1 (by rw [up1_ne _ _ (by decide)] at hb; exact hb))), fun hb => ((v2 (by rw [up1_ne _ _ (by decide)] at hb; exact hb))), fun _ => hvw, fun hb => ((v4 (by rw [up1_ne _ _ (by decide)] at hb; exact hb))), fun hb => ((v5 (by rw [up1_ne _ _ (by decide)] at hb; exact hb))), fun hb => ((v6 (by rw [up1_ne _ _ (by decide)] at hb; exact hb))), fun hb => ((v7 (by rw [up1_ne _ _ (by decide)] at hb; exact hb))), fun _ => hvv, fun hb => ((v9 (by rw [up1_ne _ _ (by decide)] at hb; exact hb)))⟩, ?_⟩
      show Sw _ _ _ _ _ _ _ _ _ _ _ (b 3) (b 7) (b 8) (b 9) _ (b 11) D _
      rw [K3.out, K7.out, K8.out, K9.out, h11]
      exact hW9
    · replace h0 : b 11 = false := h0
      have ho' := (Option.some.inj ho).symm
      subst ho'
      have k9 : b 9 = true := hall ⟨9, .data⟩ (by simp) rfl
      have k7 : b 7 = true := hall ⟨7, .data⟩ (by simp) rfl
      have k10 : b 10 = true := hall ⟨10, .chain⟩ (by simp) rfl
      have k3 : b 3 = true := hall ⟨3, .phase⟩ (by simp) rfl
      have k8 : b 8 = true := hall ⟨8, .phase⟩ (by simp) rfl
      clear hall ho
      rw [h0, k8, k3, k7, k9, k10] at hW
      have hW9 := hW.sto11 M0.out
      obtain ⟨_, hX⟩ := hW.ph rfl
      obtain ⟨t0, t1, t2, t3, t4, t5, t6, t7, t8⟩ := hX.cells
      have tf := hX.frz
      clear hX
      have e1 := v9 k9
      have e2 := v7 k7
      unfold ptC at e2
      have K9 := Lib.hid k9
      clear k9
      have K7 := Lib.hid k7
      clear k7
      have K10 := Lib.hid k10
      clear k10
      have K3 := Lib.hid k3
      clear k3
      have K8 := Lib.hid k8
      clear k8
      subst ha0
      refine wpOp_step rfl (fun K hK => ?_)
      generalize hvv : v 9 = vv at *
      generalize hvw : v 7 = vw at *
      subst e1
      subst e2
      go_simp
      refine hK _ _ ⟨up1 b 11 true, v, D, rfl, by (simp only [Act.put, List.setIfInBounds_toArray, List.set_cons_succ, List.set_cons_zero, hvv, hvw] <;> rfl), ⟨fun hb => ((v0 (by rw [up1_ne _ _ (by decide)] at hb; exact hb))), fun hb => ((v1 (by rw [up1_ne _ _ (by decide)] at hb; exact hb))), fun hb => ((v2 (by rw [up1_ne _ _ (by decide)] at hb; exact hb))), fun hb => ((v3 (by rw [up1_ne _ _ (by decide)] at hb; exact hb))), fun hb => ((v4 (by rw [up1_ne _ _ (by decide)] at hb; exact hb))), fun hb => ((v5 (by rw [up1_ne _ _ (by decide)] at hb; exact hb))), fun hb => ((v6 (by rw [up1_ne _ _ (by decide)] at hb; exact hb))), fun _ => hvw, fun hb => ((v8 (by rw [up1_ne _ _ (by decide)] at hb; exact hb))), fun _ => hvv⟩, ?_⟩
      show Sw _ _ _ _ _ _ _ _ _ _ _ (b 3) (b 7) (b 8) (b 9) (b 10) _ D _
      rw [K3.out, K7.out, K8.out, K9.out, K10.out]
      exact hW9
  · rintro l' a' w' ⟨b, v, D, rfl, rfl, ⟨v0, v1, v2, v3, v4, v5, v6, v7, v8, v9⟩, hW⟩ hr'
    have t0 : b 0 = true := must_run (i := 0) hr' rfl (by simp [Region.binds])
    have t1 : b 1 = true := must_run (i := 1) hr' rfl (by simp [Region.binds, t0])
    have t2 : b 2 = true := must_run (i := 2) hr' rfl (by simp [Region.binds, t0, t1])
    have t3 : b 3 = true := must_run (i := 3) hr' rfl (by simp [Region.binds, t0, t1, t2])
    have t4 : b 4 = true := must_run (i := 4) hr' rfl (by simp [Region.binds, t0, t1, t2, t3])
    have t5 : b 5 = true := must_run (i := 5) hr' rfl (by simp [Region.binds, t0, t1, t2, t3, t4])
    have t6 : b 6 = true := must_run (i := 6) hr' rfl (by simp [Region.binds, t0, t1, t2, t3, t4, t5])
    have t7 : b 7 = true := must_run (i := 7) hr' rfl (by simp [Region.binds, t0, t1, t2, t3, t4, t5, t6])
    have t8 : b 8 = true := must_run (i := 8) hr' rfl (by simp [Region.binds, t0, t1, t2, t3, t4, t5, t6, t7])
    have t9 : b 9 = true := must_run (i := 9) hr' rfl (by simp [Region.binds, t0, t1, t2, t3, t4, t5, t6, t7, t8])
    have t10 : b 10 = true := must_run (i := 10) hr' rfl (by simp [Region.binds, t0, t1, t2, t3, t4, t5, t6, t7, t8, t9])
    have t11 : b 11 = true := must_run (i := 11) hr' rfl (by simp [Region.binds, t0, t1, t2, t3, t4, t5, t6, t7, t8, t9, t10])
    rw [t3, t7, t8, t9, t10, t11] at hW
    obtain ⟨vr2, vf2, fl2, hS2, hE2, hF2⟩ := hW.s2 rfl
    have HPA := Lib.hid (hW.pa rfl)
    have HPB := Lib.hid (hW.pb rfl)
    obtain ⟨g1, qa⟩ := hW.pg rfl
    obtain ⟨h1, qb⟩ := hW.ph rfl
    have hgh := hW.ne rfl rfl
    have e0 := v0 t0
    have e2 := v2 t2
    have e3 := v3 t3
    have e4 := v4 t4
    have e6 := v6 t6
    have e7 := v7 t7
    have e8 := v8 t8
    have e9 := v9 t9
    clear v0 v1 v2 v3 v4 v5 v6 v7 v8 v9 hW hr'
    clear t0 t1 t2 t3 t4 t5 t6 t7 t8 t9 t10 t11
    clear e0 e2 e3 e4 e6 e7
    subst ha0
    generalize v 0 = z0 at *
    generalize v 1 = z1 at *
    generalize v 2 = z2 at *
    generalize v 3 = z3 at *
    generalize v 4 = z4 at *
    generalize v 5 = z5 at *
    generalize v 6 = z6 at *
    generalize v 7 = z7 at *
    generalize v 8 = z8 at *
    subst e8
    generalize v 9 = z9 at *
    subst e9
    have qa' : Hid (PtB w' D.g ra.nul D.fa D.la) := Lib.hid qa
    have qb' : Hid (PtB w' D.h rb.nul D.fb D.lb) := Lib.hid qb
    obtain ⟨HE2, r2, _⟩ := HCE.out _ _ _ _ _ hE2
    replace HE2 := Lib.hid HE2
    replace r2 := Lib.hid r2
    have x1 : w'.cell? ⟨Mb, 0, none⟩ = some (.pointer (some ⟨mb, 0, none⟩)) := HE2.out.bm.cell 0
    have hgm : D.g ≠ mb := by have := M0.out.lt; omega
    have hhm : D.h ≠ mb := by have := M0.out.lt; omega
    have ET := Lib.hid (HS.out.trans hE2)
    have HF2 := Lib.hid hF2
    have HM2 := Lib.hid hE2.m
    clear HCE HC1 HC2 qa qb HOW HNL M0 E0 B0 b0' r0 hE2
    generalize D.g = gg at *
    generalize D.h = gh at *
    generalize D.fa = fa at *
    generalize D.la = la at *
    generalize D.fb = fb at *
    generalize D.lb = lb at *
    have hlen : Hid (∀ p ∈ els la, p < fl2.length) := Lib.hid (fun p hp => by
      have h1 := (els_pr HPA.out (by have := H256.out; omega)).1 hp
      have h2 := ra.lst_in _ _ h1
      have h3 := HF2.out.len
      omega)
    have HC := Lib.hid (conn_pt HE2.out HM2.out hS2 qa'.out qb'.out hgm hhm HF2.out.all HPA.out.l4 HPB.out.f4 hlen.out)
    clear hF2
    go_upto_region 8 with (go_at_call 54; with_reducible refine HC.out.mono ?_; rintro e w3 ⟨rfl, hE3⟩)
    have qa3 := Lib.hid (hE3.pt HM2.out qa'.out hgm)
    have qb3 := Lib.hid (hE3.pt HM2.out qb'.out hhm)
    have r3 := Lib.hid (hE3.pt HM2.out r2.out hrn)
    have E3 := Lib.hid (ET.out.trans hE3)
    clear hE3 qa' qb' r2 HC x1
    obtain ⟨s0, s1, s2, s3, s4, s5, s6, s7, s8⟩ := qa3.out.cells
    obtain ⟨y0, y1, y2, y3, y4, y5, y6, y7, y8⟩ := qb3.out.cells
    obtain ⟨fr, hfr⟩ : ∃ x, (if ra.nul then uniW fa fb else fa) = x := ⟨_, rfl⟩
    obtain ⟨lr, hlr⟩ : ∃ x, (if rb.nul then uniW lb la else lb) = x := ⟨_, rfl⟩
    obtain ⟨nr, hnr⟩ : ∃ x, (ra.nul && rb.nul) = x := ⟨_, rfl⟩
    have HSQ : ∀ W, Calls Tryz.prog 55 #[.agg (ptC ra.nul fa la), .agg (ptC rb.nul fb lb)] W fun e w' => e = .returned (.agg (ptC nr fr lr)) ∧ Below W.heap.size W w' := fun W => by
      rw [← hfr, ← hlr, ← hnr]
      exact sequence_any ra.nul rb.nul fa la fb lb W HPA.out.f4 HPA.out.l4 HPB.out.f4 HPB.out.l4
    have HPS : Hid (PrR n (Rx.seq ra rb) fr lr) := Lib.hid (by rw [← hfr, ← hlr]; exact PrR.seq HPA.out HPB.out)
    have HFS := Lib.hid (FlR.seq HF2.out HPA.out HPB.out H256.out)
    have hnr' : Hid ((Rx.seq ra rb).nul = nr) := Lib.hid hnr
    clear hfr hlr hnr qa3 qb3 HPA HPB HF2
    unfold ptC at HSQ
    replace HSQ := fun W => Lib.hid (HSQ W)
    generalize ra.nul = na at *
    generalize rb.nul = nb at *
    go_wp2_with (go_at_call 55; with_reducible refine (HSQ _).out.mono ?_; rintro e w4 ⟨rfl, hb4⟩; have r4 := Lib.hid (r3.out.below hb4); have E4 := Lib.hid (E3.out.keep hb4); obtain ⟨t0, t1, t2, t3, t4, t5, t6, t7, t8⟩ := r4.out.cells; have tf := r4.out.frz)
    have E9 := fun v0 v1 v2 v3 v4 v5 v6 v7 v8 => E4.out.aside9 (k := H) (by rw [← hH]; exact Nat.le_refl _) hrn (own_ne E4.out.m.rf r4.out (by decide)) (own_ne E4.out.m.rs r4.out (by decide)) v0 v1 v2 v3 v4 v5 v6 v7 v8
    refine bodyPost_ret (v := .agg (ptC nr fr lr)) ?_ rfl ⟨_, _, by rw [hnr'.out], HPS.out, vr2, vf2, _, hS2, ?_, HFS.out⟩
    · rw [results_cell1 rfl]
      unfold ptC
      go_simp
    · have e : rn ++ rgL (Rx.seq ra rb) = rn ++ rgL ra ++ rgL rb := by simp [rgL, Rx.rgs, List.append_assoc]
      rw [e]
      exact E9 _ _ _ _ _ _ _ _ _

end Go.Proofs.YtfkljlncnfeklaaGreatDoor

/-! The machine's walk at an alternative. (Written by w2gen.py.) -/
namespace Go.Proofs.YtfkljlncnfeklaaGreatDoor
open Go.RowKit Go.Shelf
set_option linter.unusedVariables false
set_option linter.unusedSimpArgs false
attribute [local go_sem ↓] Go.wp_at_zero Go.wp_at_succ

set_option maxHeartbeats 8000000 in
set_option maxRecDepth 100000 in
theorem walk_alt (B Pb Mb Wb mb m c k : Nat) (A : Option Addr) (l : List Pn) (h : okP l) (hk : k < l.length) (c1 : pk l k = 3) (IA : WkC B Pb Mb Wb mb m c A l (pa l k).toNat) (IB : WkC B Pb Mb Wb mb m c A l (pb l k).toNat) : WkC B Pb Mb Wb mb m c A l k := by
  intro w F n vr vf rn fl hE hM hS hn hF h256
  have N := h.nd hk
  have hr := rxN_3 h hk c1
  rw [hr] at h256 ⊢
  obtain ⟨b, o, eA, hb, hc⟩ := hE.nd (by omega)
  subst eA
  obtain ⟨d0, d1, d2, d3, d4⟩ := hc k hk
  have hB : B ≤ w.heap.size := by have := hM.lt; have := hM.gb; omega
  have a1 := N.a1
  have a1b := N.b1
  clear N
  rw [c1] at d0
  obtain ⟨a2, a3⟩ := a1 (by omega)
  obtain ⟨a4, a5⟩ := a1b (by omega)
  obtain ⟨j, hj⟩ : ∃ j : Nat, pa l k = (j : Int) := ⟨(pa l k).toNat, by omega⟩
  obtain ⟨i, hi⟩ : ∃ i : Nat, pb l k = (i : Int) := ⟨(pb l k).toNat, by omega⟩
  rw [hj] at d3 IA h256 ⊢
  rw [hi] at d4 IB h256 ⊢
  rw [Int.toNat_natCast] at IA IB
  rw [Int.toNat_natCast, Int.toNat_natCast] at h256 ⊢
  unfold WkC at IA IB
  generalize rxN l j = ra at *
  generalize rxN l i = rb at *
  have lm := hE.lm
  have i1 : (0 : Int) ≤ (k : Int) := by omega
  have i2 : (k : Int) < (m : Int) := by omega
  have x0 := hE.bp.cell 0
  simp at x0
  have HE := Lib.hid hE
  have HM := Lib.hid hM
  have hlt := hM.lt
  have hp1 := hE.bp.lt
  have hp2 : b < w.heap.size := by omega
  have P2 := pre2 (w := w) #[.int .i64 3, .int .i64 (plo l k), .int .i64 (phi l k), .int .i64 (j : Int), .int .i64 (i : Int)] 42
  have HF := Lib.hid hF
  have HN := Lib.hid hn
  have H256 : Hid (n + ra.pl + rb.pl ≤ 256) := Lib.hid (by simp only [Rx.pl] at h256; omega)
  have HIA := Lib.hid IA
  have HIB := Lib.hid IB
  clear hE hM hc hF IA IB hn h256 h a1 a1b
  go_enter Tryz.func52, Tryz.ntmps52
  go_upto_region 2 with fail
  generalize hwa : World.alloc (World.alloc w _) _ = wa
  obtain ⟨r0, b0', B0⟩ := P2 _ hwa
  clear hwa P2
  have M0 := Lib.hid (HM.out.keep B0.out)
  have E0 := Lib.hid (HE.out.keep B0.out hB)
  have HS := Lib.hid (MaE.same HM.out B0.out)
  have hrn : w.heap.size ≠ mb := by omega
  have hnn : w.heap.size + 1 ≠ mb := by omega
  have HRL := Lib.hid r0.out.lt
  have HNL := Lib.hid b0'.out.lt
  have HOW : Hid (∀ k, w.heap.size ≤ k → vr.ownBlock ≠ some k ∧ vf.ownBlock ≠ some k) := Lib.hid (fun k hk => ⟨fun e => by have := (HM.out.rf.lt k e).2; omega, fun e => by have := (HM.out.rs.lt k e).2; omega⟩)
  have HCE : Hid (∀ (W : World) (vr' vf' : Value) (rn' : List Pn) (fl' : List (List Nat)), MaE wa W B mb 0 vr vf vr' vf' rn' fl' → WkE W B Pb Mb Wb mb m c (some ⟨b, o, none⟩) l ∧ PtB W w.heap.size false noW noW ∧
      W.cell? ⟨Wb, 0, none⟩ = some (.func (.func 52) #[] #[.pointer (some ⟨Pb, 0, none⟩), .pointer (some ⟨Mb, 0, none⟩), .pointer (some ⟨Wb, 0, none⟩)]) ∧ W.cell? ⟨w.heap.size + 1, 3, none⟩ = some (.int .i64 (j : Int)) ∧ W.cell? ⟨w.heap.size + 1, 4, none⟩ = some (.int .i64 (i : Int))) := Lib.hid (fun W vr' vf' rn' fl' E => by
    have e1 := E0.out.step E M0.out
    have hk : Bx W (w.heap.size + 1) _ _ := (E.chg.block (w.heap.size + 1) HNL.out (by
      rintro (e | e | e)
      · exact hnn e
      · exact (HOW.out _ (by omega)).1 e
      · exact (HOW.out _ (by omega)).2 e)).trans b0'.out
    exact ⟨e1, E.pt M0.out r0.out hrn, e1.bw.cell 0, hk.cell 3, hk.cell 4⟩)
  have HC1 : Hid (∀ W : World, MaE wa W B mb 0 vr vf vr vf rn fl → Calls Tryz.prog 52 #[.int .i64 (j : Int), .pointer (some ⟨Pb, 0, none⟩), .pointer (some ⟨Mb, 0, none⟩), .pointer (some ⟨Wb, 0, none⟩)] W (WkR W B mb n F vr vf rn ra)) := Lib.hid (fun W E => HIA.out W F n vr vf rn fl (HCE.out _ _ _ _ _ E).1 E.m hS HN.out HF.out (by have := H256.out; omega))
  have HC2 : Hid (∀ (W : World) (vr1 vf1 : Value) (fl1 : List (List Nat)), Sm vf1 → MaE wa W B mb 0 vr vf vr1 vf1 (rn ++ rgL ra) fl1 → FlR F n ra fl1 → Calls Tryz.prog 52 #[.int .i64 (i : Int), .pointer (some ⟨Pb, 0, none⟩), .pointer (some ⟨Mb, 0, none⟩), .pointer (some ⟨Wb, 0, none⟩)] W (WkR W B mb (n + ra.pl) (ext F n ra) vr1 vf1 (rn ++ rgL ra) rb)) := Lib.hid (fun W vr1 vf1 fl1 S E hF1 => HIB.out W (ext F n ra) (n + ra.pl) vr1 vf1 (rn ++ rgL ra) fl1 (HCE.out _ _ _ _ _ E).1 E.m S (by rw [List.length_append, rgL_len, HN.out]) hF1.to (by have := H256.out; omega))
  have u0 : wa.cell? ⟨w.heap.size + 1, 0, none⟩ = some (.int .i64 3) := b0'.out.cell 0
  clear x0 HIA HIB
  go_upto_region 10 with fail
  clear u0
  generalize hH : w.heap.size = H at *
  refine wp_region_any (by kernel_rfl) ?_
  change wpAny _ _ _ _ _ _ _ (World.drew _)
  refine wpAny_named (fun a0 ha0 => ?_)
  refine wpAny_inv (fun l a' w' => ∃ (b : Nat → Bool) (v : Nat → Value) (D : PbD), l = #[b 0, b 1, b 2, b 3, b 4, b 5, b 6, b 7, b 8, b 9, b 10, b 11] ∧ a' = ((((((((((a0.put (some 40) (v 0)).put (some 41) (v 1)).put (some 42) (v 2)).put (some 43) (v 3)).put (some 44) (v 4)).put (some 45) (v 5)).put (some 46) (v 6)).put (some 47) (v 7)).put (some 9) (v 8)).put (some 10) (v 9)) ∧ ((b 0 = true → v 0 = .func (.func 52) #[] #[.pointer (some ⟨Pb, 0, none⟩), .pointer (some ⟨Mb, 0, none⟩), .pointer (some ⟨Wb, 0, none⟩)]) ∧ (b 1 = true → v 1 = .pointer (some ⟨H + 1, 3, none⟩)) ∧ (b 2 = true → v 2 = .int .i64 (j : Int)) ∧ (b 3 = true → v 3 = .agg (ptC ra.nul D.fa D.la)) ∧ (b 4 = true → v 4 = .func (.func 52) #[] #[.pointer (some ⟨Pb, 0, none⟩), .pointer (some ⟨Mb, 0, none⟩), .pointer (some ⟨Wb, 0, none⟩)]) ∧ (b 5 = true → v 5 = .pointer (some ⟨H + 1, 4, none⟩)) ∧ (b 6 = true → v 6 = .int .i64 (i : Int)) ∧ (b 7 = true → v 7 = .agg (ptC rb.nul D.fb D.lb)) ∧ (b 8 = true → v 8 = .pointer (some ⟨D.g, 0, none⟩)) ∧ (b 9 = true → v 9 = .pointer (some ⟨D.h, 0, none⟩))) ∧ Sw wa B mb n F vr vf rn fl ra rb (b 3) (b 7) (b 8) (b 9) (b 10) (b 11) D w') ?_ ?_ _ _ _ _ ⟨fun _ => false, fun _ => undef, ⟨[], [], [], [], 0, 0⟩, rfl, by subst ha0; (simp only [Act.put, List.setIfInBounds_toArray, List.set_cons_succ, List.set_cons_zero] <;> rfl), ⟨fun h => (by cases h), fun h => (by cases h), fun h => (by cases h), fun h => (by cases h), fun h => (by cases h), fun h => (by cases h), fun h => (by cases h), fun h => (by cases h), fun h => (by cases h), fun h => (by cases h)⟩, Sw.start M0.out (Below.refl _ _).drew _⟩ (by rfl) (by decide)
  rotate_left
  · rintro l' a' w' ⟨b, v, D, rfl, rfl, ⟨v0, v1, v2, v3, v4, v5, v6, v7, v8, v9⟩, hW⟩ ii hi'
    obtain ⟨h0, oo, ho, hall⟩ := mem_ready.1 hi'
    have hlt' : ii < 12 := (Array.getElem?_eq_some_iff.1 ho).1
    clear hi'
    rcases (by omega : ii = 0 ∨ ii = 1 ∨ ii = 2 ∨ ii = 3 ∨ ii = 4 ∨ ii = 5 ∨ ii = 6 ∨ ii = 7 ∨ ii = 8 ∨ ii = 9 ∨ ii = 10 ∨ ii = 11) with rfl | rfl | rfl | rfl | rfl | rfl | rfl | rfl | rfl | rfl | rfl | rfl
    · replace h0 : b 0 = false := h0
      have ho' := (Option.some.inj ho).symm
      subst ho'
      clear hall ho
      obtain ⟨_, _, _, _, hX⟩ := hW.any
      have x0 := (HCE.out _ _ _ _ _ hX).2.2.1
      clear hX
      subst ha0
      refine wpOp_step rfl (fun K hK => ?_)
      go_simp
      exact hK _ _ ⟨up1 b 0 true, up1 v 0 (.func (.func 52) #[] #[.pointer (some ⟨Pb, 0, none⟩), .pointer (some ⟨Mb, 0, none⟩), .pointer (some ⟨Wb, 0, none⟩)]), D, rfl, by (simp only [Act.put, List.setIfInBounds_toArray, List.set_cons_succ, List.set_cons_zero, up1] <;> rfl), ⟨fun _ => up1_at _ _ _, fun hb => (up1_ne _ _ (by decide)).trans (v1 (by rw [up1_ne _ _ (by decide)] at hb; exact hb)), fun hb => (up1_ne _ _ (by decide)).trans (v2 (by rw [up1_ne _ _ (by decide)] at hb; exact hb)), fun hb => (up1_ne _ _ (by decide)).trans (v3 (by rw [up1_ne _ _ (by decide)] at hb; exact hb)), fun hb => (up1_ne _ _ (by decide)).trans (v4 (by rw [up1_ne _ _ (by decide)] at hb; exact hb)), fun hb => (up1_ne _ _ (by decide)).trans (v5 (by rw [up1_ne _ _ (by decide)] at hb; exact hb)), fun hb => (up1_ne _ _ (by decide)).trans (v6 (by rw [up1_ne _ _ (by decide)] at hb; exact hb)), fun hb => (up1_ne _ _ (by decide)).trans (v7 (by rw [up1_ne _ _ (by decide)] at hb; exact hb)), fun hb => (up1_ne _ _ (by decide)).trans (v8 (by rw [up1_ne _ _ (by decide)] at hb; exact hb)), fun hb => (up1_ne _ _ (by decide)).trans (v9 (by rw [up1_ne _ _ (by decide)] at hb; exact hb))⟩, hW⟩
    · replace h0 : b 1 = false := h0
      have ho' := (Option.some.inj ho).symm
      subst ho'
      clear hall ho
      subst ha0
      refine wpOp_step rfl (fun K hK => ?_)
      go_simp
      exact hK _ _ ⟨up1 b 1 true, up1 v 1 (.pointer (some ⟨H + 1, 3, none⟩)), D, rfl, by (simp only [Act.put, List.setIfInBounds_toArray, List.set_cons_succ, List.set_cons_zero, up1] <;> rfl), ⟨fun hb => (up1_ne _ _ (by decide)).trans (v0 (by rw [up1_ne _ _ (by decide)] at hb; exact hb)), fun _ => up1_at _ _ _, fun hb => (up1_ne _ _ (by decide)).trans (v2 (by rw [up1_ne _ _ (by decide)] at hb; exact hb)), fun hb => (up1_ne _ _ (by decide)).trans (v3 (by rw [up1_ne _ _ (by decide)] at hb; exact hb)), fun hb => (up1_ne _ _ (by decide)).trans (v4 (by rw [up1_ne _ _ (by decide)] at hb; exact hb)), fun hb => (up1_ne _ _ (by decide)).trans (v5 (by rw [up1_ne _ _ (by decide)] at hb; exact hb)), fun hb => (up1_ne _ _ (by decide)).trans (v6 (by rw [up1_ne _ _ (by decide)] at hb; exact hb)), fun hb => (up1_ne _ _ (by decide)).trans (v7 (by rw [up1_ne _ _ (by decide)] at hb; exact hb)), fun hb => (up1_ne _ _ (by decide)).trans (v8 (by rw [up1_ne _ _ (by decide)] at hb; exact hb)), fun hb => (up1_ne _ _ (by decide)).trans (v9 (by rw [up1_ne _ _ (by decide)] at hb; exact hb))⟩, hW⟩
    · replace h0 : b 2 = false := h0
      have ho' := (Option.some.inj ho).symm
      subst ho'
      have k1 : b 1 = true := hall ⟨1, .data⟩ (by simp) rfl
      clear hall ho
      obtain ⟨_, _, _, _, hX⟩ := hW.any
      have x0 := (HCE.out _ _ _ _ _ hX).2.2.2.1
      clear hX
      have e1 := v1 k1
      clear k1
      subst ha0
      refine wpOp_step rfl (fun K hK => ?_)
      generalize hvv : v 1 = vv at *
      subst e1
      go_simp
      exact hK _ _ ⟨up1 b 2 true, up1 v 2 (.int .i64 (j : Int)), D, rfl, by (simp only [Act.put, List.setIfInBounds_toArray, List.set_cons_succ, List.set_cons_zero, up1, hvv] <;> rfl), ⟨fun hb => (up1_ne _ _ (by decide)).trans (v0 (by rw [up1_ne _ _ (by decide)] at hb; exact hb)), fun _ => (up1_ne _ _ (by decide)).trans hvv, fun _ => up1_at _ _ _, fun hb => (up1_ne _ _ (by decide)).trans (v3 (by rw [up1_ne _ _ (by decide)] at hb; exact hb)), fun hb => (up1_ne _ _ (by decide)).trans (v4 (by rw [up1_ne _ _ (by decide)] at hb; exact hb)), fun hb => (up1_ne _ _ (by decide)).trans (v5 (by rw [up1_ne _ _ (by decide)] at hb; exact hb)), fun hb => (up1_ne _ _ (by decide)).trans (v6 (by rw [up1_ne _ _ (by decide)] at hb; exact hb)), fun hb => (up1_ne _ _ (by decide)).trans (v7 (by rw [up1_ne _ _ (by decide)] at hb; exact hb)), fun hb => (up1_ne _ _ (by decide)).trans (v8 (by rw [up1_ne _ _ (by decide)] at hb; exact hb)), fun hb => (up1_ne _ _ (by decide)).trans (v9 (by rw [up1_ne _ _ (by decide)] at hb; exact hb))⟩, hW⟩
    · replace h0 : b 3 = false := h0
      have ho' := (Option.some.inj ho).symm
      subst ho'
      have k0 : b 0 = true := hall ⟨0, .data⟩ (by simp) rfl
      have k2 : b 2 = true := hall ⟨2, .data⟩ (by simp) rfl
      clear hall ho
      have e1 := v0 k0
      have e2 := v2 k2
      rw [h0] at hW
      have HC := Lib.hid (HC1.out w' (hW.s0 rfl))
      clear k0 k2
      subst ha0
      refine wpOp_step rfl (fun K hK => ?_)
      generalize hvv : v 0 = vv at *
      generalize hvw : v 2 = vw at *
      subst e1
      subst e2
      go_simp
      go_at_call 52
      with_reducible refine HC.out.mono ?_
      intro e w9 hw
      obtain ⟨fa, la, rfl, hW9⟩ := hW.call1 M0.out hw
      go_simp
      refine hK _ _ ⟨up1 b 3 true, up1 v 3 (.agg (ptC ra.nul fa la)), { D with fa := fa, la := la }, rfl, by (simp only [Act.put, List.setIfInBounds_toArray, List.set_cons_succ, List.set_cons_zero, up1, hvv, hvw] <;> rfl), ⟨fun _ => (up1_ne _ _ (by decide)).trans hvv, fun hb => (up1_ne _ _ (by decide)).trans (v1 (by rw [up1_ne _ _ (by decide)] at hb; exact hb)), fun _ => (up1_ne _ _ (by decide)).trans hvw, fun _ => up1_at _ _ _, fun hb => (up1_ne _ _ (by decide)).trans (v4 (by rw [up1_ne _ _ (by decide)] at hb; exact hb)), fun hb => (up1_ne _ _ (by decide)).trans (v5 (by rw [up1_ne _ _ (by decide)] at hb; exact hb)), fun hb => (up1_ne _ _ (by decide)).trans (v6 (by rw [up1_ne _ _ (by decide)] at hb; exact hb)), fun hb => (up1_ne _ _ (by decide)).trans (v7 (by rw [up1_ne _ _ (by decide)] at hb; exact hb)), fun hb => (up1_ne _ _ (by decide)).trans (v8 (by rw [up1_ne _ _ (by decide)] at hb; exact hb)), fun hb => (up1_ne _ _ (by decide)).trans (v9 (by rw [up1_ne _ _ (by decide)] at hb; exact hb))⟩, ?_⟩
      exact hW9
    · replace h0 : b 4 = false := h0
      have ho' := (Option.some.inj ho).symm
      subst ho'
      clear hall ho
      obtain ⟨_, _, _, _, hX⟩ := hW.any
      have x0 := (HCE.out _ _ _ _ _ hX).2.2.1
      clear hX
      subst ha0
      refine wpOp_step rfl (fun K hK => ?_)
      go_simp
      exact hK _ _ ⟨up1 b 4 true, up1 v 4 (.func (.func 52) #[] #[.pointer (some ⟨Pb, 0, none⟩), .pointer (some ⟨Mb, 0, none⟩), .pointer (some ⟨Wb, 0, none⟩)]), D, rfl, by (simp only [Act.put, List.setIfInBounds_toArray, List.set_cons_succ, List.set_cons_zero, up1] <;> rfl), ⟨fun hb => (up1_ne _ _ (by decide)).trans (v0 (by rw [up1_ne _ _ (by decide)] at hb; exact hb)), fun hb => (up1_ne _ _ (by decide)).trans (v1 (by rw [up1_ne _ _ (by decide)] at hb; exact hb)), fun hb => (up1_ne _ _ (by decide)).trans (v2 (by rw [up1_ne _ _ (by decide)] at hb; exact hb)), fun hb => (up1_ne _ _ (by decide)).trans (v3 (by rw [up1_ne _ _ (by decide)] at hb; exact hb)), fun _ => up1_at _ _ _, fun hb => (up1_ne _ _ (by decide)).trans (v5 (by rw [up1_ne _ _ (by decide)] at hb; exact hb)), fun hb => (up1_ne _ _ (by decide)).trans (v6 (by rw [up1_ne _ _ (by decide)] at hb; exact hb)), fun hb => (up1_ne _ _ (by decide)).trans (v7 (by rw [up1_ne _ _ (by decide)] at hb; exact hb)), fun hb => (up1_ne _ _ (by decide)).trans (v8 (by rw [up1_ne _ _ (by decide)] at hb; exact hb)), fun hb => (up1_ne _ _ (by decide)).trans (v9 (by rw [up1_ne _ _ (by decide)] at hb; exact hb))⟩, hW⟩
    · replace h0 : b 5 = false := h0
      have ho' := (Option.some.inj ho).symm
      subst ho'
      clear hall ho
      subst ha0
      refine wpOp_step rfl (fun K hK => ?_)
      go_simp
      exact hK _ _ ⟨up1 b 5 true, up1 v 5 (.pointer (some ⟨H + 1, 4, none⟩)), D, rfl, by (simp only [Act.put, List.setIfInBounds_toArray, List.set_cons_succ, List.set_cons_zero, up1] <;> rfl), ⟨fun hb => (up1_ne _ _ (by decide)).trans (v0 (by rw [up1_ne _ _ (by decide)] at hb; exact hb)), fun hb => (up1_ne _ _ (by decide)).trans (v1 (by rw [up1_ne _ _ (by decide)] at hb; exact hb)), fun hb => (up1_ne _ _ (by decide)).trans (v2 (by rw [up1_ne _ _ (by decide)] at hb; exact hb)), fun hb => (up1_ne _ _ (by decide)).trans (v3 (by rw [up1_ne _ _ (by decide)] at hb; exact hb)), fun hb => (up1_ne _ _ (by decide)).trans (v4 (by rw [up1_ne _ _ (by decide)] at hb; exact hb)), fun _ => up1_at _ _ _, fun hb => (up1_ne _ _ (by decide)).trans (v6 (by rw [up1_ne _ _ (by decide)] at hb; exact hb)), fun hb => (up1_ne _ _ (by decide)).trans (v7 (by rw [up1_ne _ _ (by decide)] at hb; exact hb)), fun hb => (up1_ne _ _ (by decide)).trans (v8 (by rw [up1_ne _ _ (by decide)] at hb; exact hb)), fun hb => (up1_ne _ _ (by decide)).trans (v9 (by rw [up1_ne _ _ (by decide)] at hb; exact hb))⟩, hW⟩
    · replace h0 : b 6 = false := h0
      have ho' := (Option.some.inj ho).symm
      subst ho'
      have k5 : b 5 = true := hall ⟨5, .data⟩ (by simp) rfl
      clear hall ho
      obtain ⟨_, _, _, _, hX⟩ := hW.any
      have x0 := (HCE.out _ _ _ _ _ hX).2.2.2.2
      clear hX
      have e1 := v5 k5
      clear k5
      subst ha0
      refine wpOp_step rfl (fun K hK => ?_)
      generalize hvv : v 5 = vv at *
      subst e1
      go_simp
      exact hK _ _ ⟨up1 b 6 true, up1 v 6 (.int .i64 (i : Int)), D, rfl, by (simp only [Act.put, List.setIfInBounds_toArray, List.set_cons_succ, List.set_cons_zero, up1, hvv] <;> rfl), ⟨fun hb => (up1_ne _ _ (by decide)).trans (v0 (by rw [up1_ne _ _ (by decide)] at hb; exact hb)), fun hb => (up1_ne _ _ (by decide)).trans (v1 (by rw [up1_ne _ _ (by decide)] at hb; exact hb)), fun hb => (up1_ne _ _ (by decide)).trans (v2 (by rw [up1_ne _ _ (by decide)] at hb; exact hb)), fun hb => (up1_ne _ _ (by decide)).trans (v3 (by rw [up1_ne _ _ (by decide)] at hb; exact hb)), fun hb => (up1_ne _ _ (by decide)).trans (v4 (by rw [up1_ne _ _ (by decide)] at hb; exact hb)), fun _ => (up1_ne _ _ (by decide)).trans hvv, fun _ => up1_at _ _ _, fun hb => (up1_ne _ _ (by decide)).trans (v7 (by rw [up1_ne _ _ (by decide)] at hb; exact hb)), fun hb => (up1_ne _ _ (by decide)).trans (v8 (by rw [up1_ne _ _ (by decide)] at hb; exact hb)), fun hb => (up1_ne _ _ (by decide)).trans (v9 (by rw [up1_ne _ _ (by decide)] at hb; exact hb))⟩, hW⟩
    · replace h0 : b 7 = false := h0
      have ho' := (Option.some.inj ho).symm
      subst ho'
      have k4 : b 4 = true := hall ⟨4, .data⟩ (by simp) rfl
      have k6 : b 6 = true := hall ⟨6, .data⟩ (by simp) rfl
      have k3 : b 3 = true := hall ⟨3, .chain⟩ (by simp) rfl
      clear hall ho
      have e1 := v4 k4
      have e2 := v6 k6
      rw [h0, k3] at hW
      obtain ⟨vr1, vf1, fl1, hS1, hE1, hF1⟩ := hW.s1 rfl rfl
      have HC := Lib.hid (HC2.out w' vr1 vf1 fl1 hS1 hE1 hF1)
      have K3 := Lib.hid k3
      clear k3 k4 k6
      subst ha0
      refine wpOp_step rfl (fun K hK => ?_)
      generalize hvv : v 4 = vv at *
      generalize hvw : v 6 = vw at *
      subst e1
      subst e2
      go_simp
      go_at_call 52
      with_reducible refine HC.out.mono ?_
      intro e w9 hw
      obtain ⟨fb, lb, rfl, hW9⟩ := hW.call2 M0.out hE1 hw
      go_simp
      refine hK _ _ ⟨up1 b 7 true, up1 v 7 (.agg (ptC rb.nul fb lb)), { D with fb := fb, lb := lb }, rfl, by (simp only [Act.put, List.setIfInBounds_toArray, List.set_cons_succ, List.set_cons_zero, up1, hvv, hvw] <;> rfl), ⟨fun hb => (up1_ne _ _ (by decide)).trans (v0 (by rw [up1_ne _ _ (by decide)] at hb; exact hb)), fun hb => (up1_ne _ _ (by decide)).trans (v1 (by rw [up1_ne _ _ (by decide)] at hb; exact hb)), fun hb => (up1_ne _ _ (by decide)).trans (v2 (by rw [up1_ne _ _ (by decide)] at hb; exact hb)), fun hb => (up1_ne _ _ (by decide)).trans (v3 (by rw [up1_ne _ _ (by decide)] at hb; exact hb)), fun _ => (up1_ne _ _ (by decide)).trans hvv, fun hb => (up1_ne _ _ (by decide)).trans (v5 (by rw [up1_ne _ _ (by decide)] at hb; exact hb)), fun _ => (up1_ne _ _ (by decide)).trans hvw, fun _ => up1_at _ _ _, fun hb => (up1_ne _ _ (by decide)).trans (v8 (by rw [up1_ne _ _ (by decide)] at hb; exact hb)), fun hb => (up1_ne _ _ (by decide)).trans (v9 (by rw [up1_ne _ _ (by decide)] at hb; exact hb))⟩, ?_⟩
      show Sw _ _ _ _ _ _ _ _ _ _ _ (b 3) _ _ _ _ _ _ _
      rw [K3.out]
      exact hW9
    · replace h0 : b 8 = false := h0
      have ho' := (Option.some.inj ho).symm
      subst ho'
      clear hall ho
      rw [h0] at hW
      have hW9 := hW.lay7
      subst ha0
      refine wpOp_step rfl (fun K hK => ?_)
      go_simp
      refine hK _ _ ⟨up1 b 8 true, up1 v 8 (.pointer (some ⟨w'.heap.size, 0, none⟩)), { D with g := w'.heap.size }, rfl, by (simp only [Act.put, List.setIfInBounds_toArray, List.set_cons_succ, List.set_cons_zero, up1] <;> rfl), ⟨fun hb => (up1_ne _ _ (by decide)).trans (v0 (by rw [up1_ne _ _ (by decide)] at hb; exact hb)), fun hb => (up1_ne _ _ (by decide)).trans (v1 (by rw [up1_ne _ _ (by decide)] at hb; exact hb)), fun hb => (up1_ne _ _ (by decide)).trans (v2 (by rw [up1_ne _ _ (by decide)] at hb; exact hb)), fun hb => (up1_ne _ _ (by decide)).trans (v3 (by rw [up1_ne _ _ (by decide)] at hb; exact hb)), fun hb => (up1_ne _ _ (by decide)).trans (v4 (by rw [up1_ne _ _ (by decide)] at hb; exact hb)), fun hb => (up1_ne _ _ (by decide)).trans (v5 (by rw [up1_ne _ _ (by decide)] at hb; exact hb)), fun hb => (up1_ne _ _ (by decide)).trans (v6 (by rw [up1_ne _ _ (by decide)] at hb; exact hb)), fun hb => (up1_ne _ _ (by decide)).trans (v7 (by rw [up1_ne _ _ (by decide)] at hb; exact hb)), fun _ => up1_at _ _ _, fun hb => (up1_ne _ _ (by decide)).trans (v9 (by rw [up1_ne _ _ (by decide)] at hb; exact hb))⟩, ?_⟩
      exact hW9
    · replace h0 : b 9 = false := h0
      have ho' := (Option.some.inj ho).symm
      subst ho'
      clear hall ho
      rw [h0] at hW
      have hW9 := hW.lay8
      subst ha0
      refine wpOp_step rfl (fun K hK => ?_)
      go_simp
      refine hK _ _ ⟨up1 b 9 true, up1 v 9 (.pointer (some ⟨w'.heap.size, 0, none⟩)), { D with h := w'.heap.size }, rfl, by (simp only [Act.put, List.setIfInBounds_toArray, List.set_cons_succ, List.set_cons_zero, up1] <;> rfl), ⟨fun hb => (up1_ne _ _ (by decide)).trans (v0 (by rw [up1_ne _ _ (by decide)] at hb; exact hb)), fun hb => (up1_ne _ _ (by decide)).trans (v1 (by rw [up1_ne _ _ (by decide)] at hb; exact hb)), fun hb => (up1_ne _ _ (by decide)).trans (v2 (by rw [up1_ne _ _ (by decide)] at hb; exact hb)), fun hb => (up1_ne _ _ (by decide)).trans (v3 (by rw [up1_ne _ _ (by decide)] at hb; exact hb)), fun hb => (up1_ne _ _ (by decide)).trans (v4 (by rw [up1_ne _ _ (by decide)] at hb; exact hb)), fun hb => (up1_ne _ _ (by decide)).trans (v5 (by rw [up1_ne _ _ (by decide)] at hb; exact hb)), fun hb => (up1_ne _ _ (by decide)).trans (v6 (by rw [up1_ne _ _ (by decide)] at hb; exact hb)), fun hb => (up1_ne _ _ (by decide)).trans (v7 (by rw [up1_ne _ _ (by decide)] at hb; exact hb)), fun hb => (up1_ne _ _ (by decide)).trans (v8 (by rw [up1_ne _ _ (by decide)] at hb; exact hb)), fun _ => up1_at _ _ _⟩, ?_⟩
      exact hW9
    · replace h0 : b 10 = false := h0
      have ho' := (Option.some.inj ho).symm
      subst ho'
      have k8 : b 8 = true := hall ⟨8, .data⟩ (by simp) rfl
      have k3 : b 3 = true := hall ⟨3, .data⟩ (by simp) rfl
      have k7 : b 7 = true := hall ⟨7, .chain⟩ (by simp) rfl
      have k9 : b 9 = true := hall ⟨9, .phase⟩ (by simp) rfl
      clear hall ho
      rw [h0, k8, k3, k7, k9] at hW
      have h11 : b 11 = false := by cases hc : b 11; rfl; exact absurd (hW.tt hc) (by decide)
      rw [h11] at hW
      have hW9 := hW.sto10 M0.out
      obtain ⟨_, hX⟩ := hW.pg rfl
      obtain ⟨t0, t1, t2, t3, t4, t5, t6, t7, t8⟩ := hX.cells
      have tf := hX.frz
      clear hX
      have e1 := v8 k8
      have e2 := v3 k3
      unfold ptC at e2
      have K8 := Lib.hid k8
      clear k8
      have K3 := Lib.hid k3
      clear k3
      have K7 := Lib.hid k7
      clear k7
      have K9 := Lib.hid k9
      clear k9
      subst ha0
      refine wpOp_step rfl (fun K hK => ?_)
      generalize hvv : v 8 = vv at *
      generalize hvw : v 3 = vw at *
      subst e1
      subst e2
      go_simp
      refine hK _ _ ⟨up1 b 10 true, v, D, rfl, by (simp only [Act.put, List.setIfInBounds_toArray, List.set_cons_succ, List.set_cons_zero, hvv, hvw] <;> rfl), ⟨fun hb => ((v0 (by rw [up1_ne _ _ (by decide)] at hb; exact hb))), fun hb => ((v1 (by rw [up1_ne _ _ (by decide)] at hb; exact hb))), fun hb => ((v2 (by rw [up1_ne _ _ (by decide)] at hb; exact hb))), fun _ => hvw, fun hb => ((v4 (by rw [up1_ne _ _ (by decide)] at hb; exact hb))), fun hb => ((v5 (by rw [up1_ne _ _ (by decide)] at hb; exact hb))), fun hb => ((v6 (by rw [up1_ne _ _ (by decide)] at hb; exact hb))), fun hb => ((v7 (by rw [up1_ne _ _ (by decide)] at hb; exact hb))), fun _ => hvv, fun hb => ((v9 (by rw [up1_ne _ _ (by decide)] at hb; exact hb)))⟩, ?_⟩
      show Sw _ _ _ _ _ _ _ _ _ _ _ (b 3) (b 7) (b 8) (b 9) _ (b 11) D _
      rw [K3.out, K7.out, K8.out, K9.out, h11]
      exact hW9
    · replace h0 : b 11 = false := h0
      have ho' := (Option.some.inj ho).symm
      subst ho'
      have k9 : b 9 = true := hall ⟨9, .data⟩ (by simp) rfl
      have k7 : b 7 = true := hall ⟨7, .data⟩ (by simp) rfl
      have k10 : b 10 = true := hall ⟨10, .chain⟩ (by simp) rfl
      have k3 : b 3 = true := hall ⟨3, .phase⟩ (by simp) rfl
      have k8 : b 8 = true := hall ⟨8, .phase⟩ (by simp) rfl
      clear hall ho
      rw [h0, k8, k3, k7, k9, k10] at hW
      have hW9 := hW.sto11 M0.out
      obtain ⟨_, hX⟩ := hW.ph rfl
      obtain ⟨t0, t1, t2, t3, t4, t5, t6, t7, t8⟩ := hX.cells
      have tf := hX.frz
      clear hX
      have e1 := v9 k9
      have e2 := v7 k7
      unfold ptC at e2
      have K9 := Lib.hid k9
      clear k9
      have K7 := Lib.hid k7
      clear k7
      have K10 := Lib.hid k10
      clear k10
      have K3 := Lib.hid k3
      clear k3
      have K8 := Lib.hid k8
      clear k8
      subst ha0
      refine wpOp_step rfl (fun K hK => ?_)
      generalize hvv : v 9 = vv at *
      generalize hvw : v 7 = vw at *
      subst e1
      subst e2
      go_simp
      refine hK _ _ ⟨up1 b 11 true, v, D, rfl, by (simp only [Act.put, List.setIfInBounds_toArray, List.set_cons_succ, List.set_cons_zero, hvv, hvw] <;> rfl), ⟨fun hb => ((v0 (by rw [up1_ne _ _ (by decide)] at hb; exact hb))), fun hb => ((v1 (by rw [up1_ne _ _ (by decide)] at hb; exact hb))), fun hb => ((v2 (by rw [up1_ne _ _ (by decide)] at hb; exact hb))), fun hb => ((v3 (by rw [up1_ne _ _ (by decide)] at hb; exact hb))), fun hb => ((v4 (by rw [up1_ne _ _ (by decide)] at hb; exact hb))), fun hb => ((v5 (by rw [up1_ne _ _ (by decide)] at hb; exact hb))), fun hb => ((v6 (by rw [up1_ne _ _ (by decide)] at hb; exact hb))), fun _ => hvw, fun hb => ((v8 (by rw [up1_ne _ _ (by decide)] at hb; exact hb))), fun _ => hvv⟩, ?_⟩
      show Sw _ _ _ _ _ _ _ _ _ _ _ (b 3) (b 7) (b 8) (b 9) (b 10) _ D _
      rw [K3.out, K7.out, K8.out, K9.out, K10.out]
      exact hW9
  · rintro l' a' w' ⟨b, v, D, rfl, rfl, ⟨v0, v1, v2, v3, v4, v5, v6, v7, v8, v9⟩, hW⟩ hr'
    have t0 : b 0 = true := must_run (i := 0) hr' rfl (by simp [Region.binds])
    have t1 : b 1 = true := must_run (i := 1) hr' rfl (by simp [Region.binds, t0])
    have t2 : b 2 = true := must_run (i := 2) hr' rfl (by simp [Region.binds, t0, t1])
    have t3 : b 3 = true := must_run (i := 3) hr' rfl (by simp [Region.binds, t0, t1, t2])
    have t4 : b 4 = true := must_run (i := 4) hr' rfl (by simp [Region.binds, t0, t1, t2, t3])
    have t5 : b 5 = true := must_run (i := 5) hr' rfl (by simp [Region.binds, t0, t1, t2, t3, t4])
    have t6 : b 6 = true := must_run (i := 6) hr' rfl (by simp [Region.binds, t0, t1, t2, t3, t4, t5])
    have t7 : b 7 = true := must_run (i := 7) hr' rfl (by simp [Region.binds, t0, t1, t2, t3, t4, t5, t6])
    have t8 : b 8 = true := must_run (i := 8) hr' rfl (by simp [Region.binds, t0, t1, t2, t3, t4, t5, t6, t7])
    have t9 : b 9 = true := must_run (i := 9) hr' rfl (by simp [Region.binds, t0, t1, t2, t3, t4, t5, t6, t7, t8])
    have t10 : b 10 = true := must_run (i := 10) hr' rfl (by simp [Region.binds, t0, t1, t2, t3, t4, t5, t6, t7, t8, t9])
    have t11 : b 11 = true := must_run (i := 11) hr' rfl (by simp [Region.binds, t0, t1, t2, t3, t4, t5, t6, t7, t8, t9, t10])
    rw [t3, t7, t8, t9, t10, t11] at hW
    obtain ⟨vr2, vf2, fl2, hS2, hE2, hF2⟩ := hW.s2 rfl
    have HPA := Lib.hid (hW.pa rfl)
    have HPB := Lib.hid (hW.pb rfl)
    obtain ⟨g1, qa⟩ := hW.pg rfl
    obtain ⟨h1, qb⟩ := hW.ph rfl
    have hgh := hW.ne rfl rfl
    have e0 := v0 t0
    have e2 := v2 t2
    have e3 := v3 t3
    have e4 := v4 t4
    have e6 := v6 t6
    have e7 := v7 t7
    have e8 := v8 t8
    have e9 := v9 t9
    clear v0 v1 v2 v3 v4 v5 v6 v7 v8 v9 hW hr'
    clear t0 t1 t2 t3 t4 t5 t6 t7 t8 t9 t10 t11
    clear e0 e2 e3 e4 e6 e7
    subst ha0
    generalize v 0 = z0 at *
    generalize v 1 = z1 at *
    generalize v 2 = z2 at *
    generalize v 3 = z3 at *
    generalize v 4 = z4 at *
    generalize v 5 = z5 at *
    generalize v 6 = z6 at *
    generalize v 7 = z7 at *
    generalize v 8 = z8 at *
    subst e8
    generalize v 9 = z9 at *
    subst e9
    have qa' : Hid (PtB w' D.g ra.nul D.fa D.la) := Lib.hid qa
    have qb' : Hid (PtB w' D.h rb.nul D.fb D.lb) := Lib.hid qb
    obtain ⟨HE2, r2, _⟩ := HCE.out _ _ _ _ _ hE2
    replace HE2 := Lib.hid HE2
    replace r2 := Lib.hid r2
    have x1 : w'.cell? ⟨Mb, 0, none⟩ = some (.pointer (some ⟨mb, 0, none⟩)) := HE2.out.bm.cell 0
    have hgm : D.g ≠ mb := by have := M0.out.lt; omega
    have hhm : D.h ≠ mb := by have := M0.out.lt; omega
    have ET := Lib.hid (HS.out.trans hE2)
    have HF2 := Lib.hid hF2
    have HM2 := Lib.hid hE2.m
    clear HCE HC1 HC2 qa qb HOW HNL M0 E0 B0 b0' r0 hE2
    generalize D.g = gg at *
    generalize D.h = gh at *
    generalize D.fa = fa at *
    generalize D.la = la at *
    generalize D.fb = fb at *
    generalize D.lb = lb at *
    clear hF2 x1
    have qa3 := qa'
    have qb3 := qb'
    have r3 := r2
    have E3 := ET
    clear qa' qb' r2
    obtain ⟨s0, s1, s2, s3, s4, s5, s6, s7, s8⟩ := qa3.out.cells
    obtain ⟨y0, y1, y2, y3, y4, y5, y6, y7, y8⟩ := qb3.out.cells
    obtain ⟨fr, hfr⟩ : ∃ x, uniW fa fb = x := ⟨_, rfl⟩
    obtain ⟨lr, hlr⟩ : ∃ x, uniW la lb = x := ⟨_, rfl⟩
    obtain ⟨nr, hnr⟩ : ∃ x, (ra.nul || rb.nul) = x := ⟨_, rfl⟩
    have HSQ : ∀ W, Calls Tryz.prog 56 #[.agg (ptC ra.nul fa la), .agg (ptC rb.nul fb lb)] W fun e w' => e = .returned (.agg (ptC nr fr lr)) ∧ Below W.heap.size W w' := fun W => by
      rw [← hfr, ← hlr, ← hnr]
      exact alternative_any ra.nul rb.nul fa la fb lb W HPA.out.f4 HPA.out.l4 HPB.out.f4 HPB.out.l4
    have HPS : Hid (PrR n (Rx.alt ra rb) fr lr) := Lib.hid (by rw [← hfr, ← hlr]; exact PrR.alt HPA.out HPB.out)
    have HFS := Lib.hid (FlR.alt HF2.out)
    have hnr' : Hid ((Rx.alt ra rb).nul = nr) := Lib.hid hnr
    clear hfr hlr hnr qa3 qb3 HPA HPB HF2
    unfold ptC at HSQ
    replace HSQ := fun W => Lib.hid (HSQ W)
    generalize ra.nul = na at *
    generalize rb.nul = nb at *
    go_wp2_with (go_at_call 56; with_reducible refine (HSQ _).out.mono ?_; rintro e w4 ⟨rfl, hb4⟩; have r4 := Lib.hid (r3.out.below hb4); have E4 := Lib.hid (E3.out.keep hb4); obtain ⟨t0, t1, t2, t3, t4, t5, t6, t7, t8⟩ := r4.out.cells; have tf := r4.out.frz)
    have E9 := fun v0 v1 v2 v3 v4 v5 v6 v7 v8 => E4.out.aside9 (k := H) (by rw [← hH]; exact Nat.le_refl _) hrn (own_ne E4.out.m.rf r4.out (by decide)) (own_ne E4.out.m.rs r4.out (by decide)) v0 v1 v2 v3 v4 v5 v6 v7 v8
    refine bodyPost_ret (v := .agg (ptC nr fr lr)) ?_ rfl ⟨_, _, by rw [hnr'.out], HPS.out, vr2, vf2, _, hS2, ?_, HFS.out⟩
    · rw [results_cell1 rfl]
      unfold ptC
      go_simp
    · have e : rn ++ rgL (Rx.alt ra rb) = rn ++ rgL ra ++ rgL rb := by simp [rgL, Rx.rgs, List.append_assoc]
      rw [e]
      exact E9 _ _ _ _ _ _ _ _ _

end Go.Proofs.YtfkljlncnfeklaaGreatDoor

/-! newMachine. -/
namespace Go.Proofs.YtfkljlncnfeklaaGreatDoor
open Go.RowKit Go.Shelf
set_option linter.unusedVariables false
set_option linter.unusedSimpArgs false
attribute [local go_sem ↓] Go.wp_at_zero Go.wp_at_succ

/-- the walk at every node -/
theorem walk_any (B Pb Mb Wb mb m c : Nat) (A : Option Addr) (l : List Pn) (h : okP l) : ∀ k, k < l.length → WkC B Pb Mb Wb mb m c A l k := fun k => Nat.strongRecOn k fun k ih hk => by
  have N := h.nd hk
  obtain ⟨k0, k4⟩ := N.kd
  rcases (show pk l k = 0 ∨ pk l k = 1 ∨ pk l k = 2 ∨ pk l k = 3 ∨ pk l k = 4 by omega) with c | c | c | c | c
  · exact walk_emp _ _ _ _ _ _ _ _ _ _ h hk c
  · exact walk_rng _ _ _ _ _ _ _ _ _ _ h hk c
  · have a := (N.a1 (by omega)).2
    have b := (N.b1 (by omega)).2
    exact walk_seq _ _ _ _ _ _ _ _ _ _ h hk c (ih _ a (by omega)) (ih _ b (by omega))
  · have a := (N.a1 (by omega)).2
    have b := (N.b1 (by omega)).2
    exact walk_alt _ _ _ _ _ _ _ _ _ _ h hk c (ih _ a (by omega)) (ih _ b (by omega))
  · have a := (N.a1 (by omega)).2
    exact walk_rep _ _ _ _ _ _ _ _ _ _ h hk c (ih _ a (by omega))

theorem make_pn (L : Nat) (hL : L ≤ 256) : ∃ RC : Array Value, RC.size = L * 5 ∧ ∀ W : World, (Instr.makeSlice 24 (.int .i64 0) (.int .i64 (L : Int))).run Tryz.prog W = .ok (.slice (some ⟨W.heap.size, 0, none⟩) 0 L) (W.alloc (.cells RC 42)) := by
  obtain ⟨i0, hi, hz0, hz1, hz2⟩ := info_parts Tryz.infoPn
  refine ⟨madeCells (Value.agg #[.int .i64 0, .int .i64 0, .int .i64 0, .int .i64 0, .int .i64 0]).cells (L * 5), size_madeCells _ _, fun W => ?_⟩
  have hrun := run_make (P := Tryz.prog) W 24 42 i0 _ Tryz.underlying24 hi hz0 .i64 .i64 0 (L : Int) (by omega) (by omega) (by rw [hz2]; omega) (by omega)
  simp only [Int.toNat_natCast, hz1] at hrun
  exact hrun
theorem make_pl (L : Nat) (hL : L ≤ 256) : ∃ FC : Array Value, FC.size = L * 4 ∧ ∀ W : World, (Instr.makeSlice 92 (.int .i64 0) (.int .i64 (L : Int))).run Tryz.prog W = .ok (.slice (some ⟨W.heap.size, 0, none⟩) 0 L) (W.alloc (.cells FC 95)) := by
  obtain ⟨i0, hi, hz0, hz1, hz2⟩ := info_parts Tryz.infoPl
  refine ⟨madeCells (Value.agg #[.int .u64 0, .int .u64 0, .int .u64 0, .int .u64 0]).cells (L * 4), size_madeCells _ _, fun W => ?_⟩
  have hrun := run_make (P := Tryz.prog) W 92 95 i0 _ Tryz.underlying92 hi hz0 .i64 .i64 0 (L : Int) (by omega) (by omega) (by rw [hz2]; omega) (by omega)
  simp only [Int.toNat_natCast, hz1] at hrun
  exact hrun
theorem bx_al {w : World} {k T : Nat} {cs : Array Value} (h : Bx w k cs T) (o : Obj) : Bx (w.alloc o) k cs T := h.below ((Below.refl _ _).alloc (Nat.le_refl _) _)
theorem bx_dr {w : World} {k T : Nat} {cs : Array Value} (h : Bx w k cs T) : Bx w.drew k cs T := h
/-- the machine's blocks, new -/
structure NmB (w wx : World) (L m c : Nat) (A : Option Addr) (RC FC : Array Value) (Rb Fb mb Mb : Nat) : Prop where
  bM : Bx wx Mb #[.pointer (some ⟨mb, 0, none⟩)] 48
  bm : Bx wx mb #[.slice (some ⟨Rb, 0, none⟩) 0 L, .slice (some ⟨Fb, 0, none⟩) 0 L, .bool false, .int .u64 0, .int .u64 0, .int .u64 0, .int .u64 0, .int .u64 0, .int .u64 0, .int .u64 0, .int .u64 0] 99
  bp : Bx wx w.heap.size #[.slice A m c] 25
  br : Bx wx Rb RC 42
  bf : Bx wx Fb FC 95
  lr : w.heap.size < Rb
  lf : w.heap.size < Fb
  lm : w.heap.size < mb
  lM : w.heap.size < Mb
  bel : Below w.heap.size w wx
theorem bx_ne {w : World} {k k' T T' : Nat} {cs cs' : Array Value} (h : Bx w k cs T) (h' : Bx w k' cs' T') (hT : T ≠ T') : k ≠ k' := by
  rintro rfl
  rw [Bx] at h h'
  rw [h] at h'
  injection h' with h'
  injection h' with _ h2
  exact hT h2
/-- the finished machine -/
structure McM (w : World) (B mb : Nat) (r : Rx) (vr vf : Value) (fl : List (List Nat)) (f l : List Nat) : Prop where
  ma : MaM w B mb 0 vr vf (rgL r) fl
  sm : Sm vf
  em : w.cell? ⟨mb, 2, none⟩ = some (.bool r.nul)
  pf : Pl w mb 3 f
  pl : Pl w mb 7 l
  mw : McW r fl f l
theorem MaM.ownset {w : World} {B g : Nat} {vf vs : Value} {l : List Pn} {z : List (List Nat)} (h : MaM w B g 0 vf vs l z) {j : Nat} (hj : 2 ≤ j) (v : Value) : MaM (w.setCell ⟨g, j, none⟩ v) B g 0 vf vs l z :=
  ⟨(cell_set_off _ _ _ _ _ (by omega)).trans h.cf, (cell_set_off _ _ _ _ _ (by omega)).trans h.cs, by rw [World.frozen?_setCell]; exact h.ff, by rw [World.frozen?_setCell]; exact h.fs, h.rf.kept (grown_set w g j v) (.inr h.gf), h.rs.kept (grown_set w g j v) (.inr h.gs), h.gf, h.gs, h.gb⟩
/-- the nine cells of the whole are written -/
def st11 (w : World) (mb : Nat) (e : Bool) (f l : List Nat) : World := ((((((((w.setCell ⟨mb, 2, none⟩ (.bool e)).setCell ⟨mb, 3, none⟩ (.int .u64 ((gW f 0 : Nat) : Int))).setCell ⟨mb, 4, none⟩ (.int .u64 ((gW f 1 : Nat) : Int))).setCell ⟨mb, 5, none⟩ (.int .u64 ((gW f 2 : Nat) : Int))).setCell ⟨mb, 6, none⟩ (.int .u64 ((gW f 3 : Nat) : Int))).setCell ⟨mb, 7, none⟩ (.int .u64 ((gW l 0 : Nat) : Int))).setCell ⟨mb, 8, none⟩ (.int .u64 ((gW l 1 : Nat) : Int))).setCell ⟨mb, 9, none⟩ (.int .u64 ((gW l 2 : Nat) : Int))).setCell ⟨mb, 10, none⟩ (.int .u64 ((gW l 3 : Nat) : Int))
theorem st11_eq (w : World) (mb : Nat) (e : Bool) (f l : List Nat) : st11 w mb e f l = stP4 (stP4 (w.setCell ⟨mb, 2, none⟩ (.bool e)) mb 3 f 4) mb 7 l 4 := rfl
theorem Pl.off {w : World} {g o o' : Nat} {ws ws' : List Nat} (h : Pl w g o ws) (hd : o + 4 ≤ o' ∨ o' + 4 ≤ o) : Pl (stP4 w g o' ws' 4) g o ws := fun i hi =>
  ⟨(stP4_off w g o' ws' (o + i) 4 (by omega)).trans (h i hi).1, by rw [stP4_frozen]; exact (h i hi).2⟩
theorem Pl.set1 {w : World} {g o j : Nat} {ws : List Nat} (h : Pl w g o ws) (hd : j < o ∨ o + 4 ≤ j) (v : Value) : Pl (w.setCell ⟨g, j, none⟩ v) g o ws := fun i hi =>
  ⟨(cell_set_off _ _ _ _ _ (by omega)).trans (h i hi).1, by rw [World.frozen?_setCell]; exact (h i hi).2⟩
theorem mcm_made {w : World} {B mb : Nat} {r : Rx} {vr vf : Value} {fl : List (List Nat)} {f l f0 l0 : List Nat} (M : MaM w B mb 0 vr vf (rgL r) fl) (S : Sm vf) (hm : McW r fl f l)
    {v : Value} (h2 : w.cell? ⟨mb, 2, none⟩ = some v) (p3 : Pl w mb 3 f0) (p7 : Pl w mb 7 l0) : McM (st11 w mb r.nul f l) B mb r vr vf fl f l := by
  have M1 : MaM (st11 w mb r.nul f l) B mb 0 vr vf (rgL r) fl := ((((((((M.ownset (by omega) _).ownset (by omega) _).ownset (by omega) _).ownset (by omega) _).ownset (by omega) _).ownset (by omega) _).ownset (by omega) _).ownset (by omega) _).ownset (by omega) _
  rw [st11_eq] at M1 ⊢
  have q3 := p3.set1 (j := 2) (by omega) (.bool r.nul)
  have q7 := p7.set1 (j := 2) (by omega) (.bool r.nul)
  have e2 := World.cell?_setCell_same w ⟨mb, 2, none⟩ (.bool r.nul) h2
  generalize w.setCell ⟨mb, 2, none⟩ (.bool r.nul) = w1 at *
  have s3 := stP4_pl w1 mb 3 f f0 q3
  have s7 : Pl (stP4 w1 mb 3 f 4) mb 7 l0 := q7.off (by omega)
  have e3 := (stP4_off w1 mb 3 f 2 4 (by omega)).trans e2
  generalize stP4 w1 mb 3 f 4 = w2 at *
  exact ⟨M1, S, (stP4_off w2 mb 7 l 2 4 (by omega)).trans e3, s3.off (by omega), stP4_pl w2 mb 7 l l0 s7, hm⟩
theorem pl_mk {w : World} {g o : Nat} (a0 : w.cell? ⟨g, o, none⟩ = some (.int .u64 0)) (a1 : w.cell? ⟨g, o + 1, none⟩ = some (.int .u64 0)) (a2 : w.cell? ⟨g, o + 2, none⟩ = some (.int .u64 0)) (a3 : w.cell? ⟨g, o + 3, none⟩ = some (.int .u64 0))
    (b0 : w.frozen? ⟨g, o, none⟩ = false) (b1 : w.frozen? ⟨g, o + 1, none⟩ = false) (b2 : w.frozen? ⟨g, o + 2, none⟩ = false) (b3 : w.frozen? ⟨g, o + 3, none⟩ = false) : Pl w g o noW := fun i hi => by
  rcases (show i = 0 ∨ i = 1 ∨ i = 2 ∨ i = 3 by omega) with rfl | rfl | rfl | rfl
  · exact ⟨a0, b0⟩
  · exact ⟨a1, b1⟩
  · exact ⟨a2, b2⟩
  · exact ⟨a3, b3⟩
theorem st11_bel {B : Nat} {a w : World} (hb : Below B a w) {mb : Nat} (h : B ≤ mb) (e : Bool) (f l : List Nat) : Below B a (st11 w mb e f l) :=
  (((((((((hb.setCell (p := ⟨mb, _, none⟩) h _).setCell (p := ⟨mb, _, none⟩) h _).setCell (p := ⟨mb, _, none⟩) h _).setCell (p := ⟨mb, _, none⟩) h _).setCell (p := ⟨mb, _, none⟩) h _).setCell (p := ⟨mb, _, none⟩) h _).setCell (p := ⟨mb, _, none⟩) h _).setCell (p := ⟨mb, _, none⟩) h _).setCell (p := ⟨mb, _, none⟩) h _)
theorem st11_keep (w : World) (mb : Nat) (e : Bool) (f l : List Nat) {k : Nat} (h : k ≠ mb) : (st11 w mb e f l).heap[k]? = w.heap[k]? :=
  (hp_set _ mb _ _ h).trans ((hp_set _ mb _ _ h).trans ((hp_set _ mb _ _ h).trans ((hp_set _ mb _ _ h).trans ((hp_set _ mb _ _ h).trans ((hp_set _ mb _ _ h).trans ((hp_set _ mb _ _ h).trans ((hp_set _ mb _ _ h).trans (hp_set _ mb _ _ h))))))))
set_option maxHeartbeats 4000000 in
set_option maxRecDepth 100000 in
theorem newm_any (A : Option Addr) (m c : Nat) (l : List Pn) (w : World) (h : okP l) (hl : Hid (l.length = m)) (hr : Hid (Rp w w.heap.size A l)) (ht : Hid (Tz w)) (hts : 2 < w.heap.size) :
    Calls Tryz.prog 28 #[.slice A m c] w fun e w' => Below w.heap.size w w' ∧ ∃ mb vr vf fl f l', e = .returned (.pointer (some ⟨mb, 0, none⟩)) ∧ w.heap.size < mb ∧ McM w' (w.heap.size + 1) mb (rxP l) vr vf fl f l' := by
  have hm := h.len
  have hm1 : 1 ≤ m := by rw [← hl.out]; exact hm.1
  have hm2 : m ≤ 512 := by rw [← hl.out]; exact hm.2
  have d1 : ((m : Int) + 1).tdiv 2 = (((m + 1) / 2 : Nat) : Int) := by rw [Int.tdiv_eq_ediv_of_nonneg (by omega)]; omega
  have hL : (m + 1) / 2 ≤ 256 := by omega
  generalize (m + 1) / 2 = L at *
  have i1 : (0 : Int) ≤ (L : Int) := by omega
  obtain ⟨RC, hRC, mk1⟩ := make_pn L hL
  obtain ⟨FC, hFC, mk2⟩ := make_pl L hL
  have HRC := Lib.hid hRC
  have HFC := Lib.hid hFC
  clear hRC hFC
  go_enter Tryz.func28, Tryz.ntmps28
  go_upto_region 2 with fail
  go_cut [4] from 6 to 25 (fun s4 wx => ∃ Rb Fb mb Mb, s4 = .pointer (some ⟨Mb, 0, none⟩) ∧ NmB w wx L m c A RC FC Rb Fb mb Mb)
  case first =>
    go_region
    all_goals
      go_wp2_with fail
      go_meet
      exact ⟨_, _, _, _, rfl, ⟨(by repeat (first | exact bx_new (by simp) _ _ | refine bx_dr ?_ | refine bx_al ?_ _)), (by repeat (first | exact bx_new (by simp) _ _ | refine bx_dr ?_ | refine bx_al ?_ _)), (by repeat (first | exact bx_new (by simp) _ _ | refine bx_dr ?_ | refine bx_al ?_ _)), (by repeat (first | exact bx_new (by simp) _ _ | refine bx_dr ?_ | refine bx_al ?_ _)), (by repeat (first | exact bx_new (by simp) _ _ | refine bx_dr ?_ | refine bx_al ?_ _)), by omega, by omega, by omega, by omega, by repeat (first | exact Below.refl _ _ | refine Below.drew ?_ | refine Below.alloc ?_ (by simp; try omega) _)⟩⟩
  case rest =>
    obtain ⟨Rb, Fb, mb, Mb, rfl, hB⟩ := hcut
    have HB := Lib.hid hB
    clear hB
    have hbm := HB.out.bm
    have n1 : Rb ≠ mb := bx_ne HB.out.br hbm (by decide)
    have n2 : Fb ≠ mb := bx_ne HB.out.bf hbm (by decide)
    have n3 : Mb ≠ mb := bx_ne HB.out.bM hbm (by decide)
    have n4 : w.heap.size ≠ mb := bx_ne HB.out.bp hbm (by decide)
    have lR := HB.out.lr
    have lF := HB.out.lf
    have lmb := HB.out.lm
    have M0 : Hid (MaM wc (w.heap.size + 1) mb 0 (.slice (some ⟨Rb, 0, none⟩) 0 L) (.slice (some ⟨Fb, 0, none⟩) 0 L) [] []) := Lib.hid ⟨hbm.cell 0, hbm.cell 1, frozen_of_row _ _ 0 _ _ hbm, frozen_of_row _ _ 1 _ _ hbm,
      ⟨rfl, .inr ⟨Rb, L, RC, rfl, by omega, HB.out.br, Nat.zero_le _, by simp only [maxLen]; omega, HRC.out, rfl⟩⟩, ⟨rfl, .inr ⟨Fb, L, FC, rfl, by omega, HB.out.bf, Nat.zero_le _, by simp only [maxLen]; omega, HFC.out, rfl⟩⟩,
      (fun e => n1 (Option.some.inj e)), (fun e => n2 (Option.some.inj e)), by omega⟩
    have HWc := Lib.hid hbm.lt
    clear hbm
    go_upto_region 5 with fail
    have HWB := Lib.hid (bx_new (w := wc) rfl #[.func (.func 52) #[] #[.pointer (some ⟨w.heap.size, 0, none⟩), .pointer (some ⟨Mb, 0, none⟩), .pointer (some ⟨wc.heap.size, 0, none⟩)]] 100)
    have B1 : Hid (Below wc.heap.size wc (wc.alloc (.cells #[.func (.func 52) #[] #[.pointer (some ⟨w.heap.size, 0, none⟩), .pointer (some ⟨Mb, 0, none⟩), .pointer (some ⟨wc.heap.size, 0, none⟩)]] 100))) := Lib.hid ((Below.refl _ _).alloc (Nat.le_refl _) _)
    obtain ⟨wb, hwb⟩ : ∃ x, wc.heap.size = x := ⟨_, rfl⟩
    have HWS := Lib.hid hwb
    rw [hwb] at HWB B1 HWc ⊢
    generalize wc.alloc (.cells #[.func (.func 52) #[] #[.pointer (some ⟨w.heap.size, 0, none⟩), .pointer (some ⟨Mb, 0, none⟩), .pointer (some ⟨wb, 0, none⟩)]] 100) = w1 at *
    have B1' : Hid (Below wc.heap.size wc w1) := Lib.hid (by rw [HWS.out]; exact B1.out)
    have BT : Hid (Below w.heap.size w w1) := Lib.hid (HB.out.bel.trans (B1'.out.mono HB.out.bel.size))
    have BS := HB.out.bel.size
    have E1 : Hid (WkE w1.drew (w.heap.size + 1) w.heap.size Mb wb mb m c A l) := Lib.hid (by
      refine ⟨HB.out.bp.below B1'.out.drew, HB.out.bM.below B1'.out.drew, HWB.out, ?_, ?_, n4, n3, ?_, by omega, hl.out⟩
      · exact ((hr.out.below BT.out).mono (by omega))
      · exact fun j hj => (World.cell?_of_block (w := w) (BT.out.block _ hts)).trans (ht.out j hj)
      · have := HWc.out; omega)
    have M1 : Hid (MaM w1.drew (w.heap.size + 1) mb 0 (.slice (some ⟨Rb, 0, none⟩) 0 L) (.slice (some ⟨Fb, 0, none⟩) 0 L) [] []) := Lib.hid (M0.out.keep B1'.out.drew)
    have h256 := rx_256 h
    have HW := Lib.hid (walk_any (w.heap.size + 1) w.heap.size Mb wb mb m c A l h (m - 1) (by rw [hl.out]; omega) w1.drew (fun _ _ => false) 0 _ _ [] [] E1.out M1.out ⟨_, _, _, rfl⟩ rfl FlR.start (by rw [Nat.zero_add]; rw [hl.out] at h256; exact h256))
    have hrx : rxN l (m - 1) = rxP l := by unfold rxP; rw [hl.out]
    rw [hrx] at HW
    have HH256 : Hid ((rxP l).pl ≤ 256) := Lib.hid h256
    have e1 : ((m - 1 : Nat) : Int) = (m : Int) - 1 := by omega
    rw [e1] at HW
    have x0 : w1.cell? ⟨w.heap.size, 0, none⟩ = some (.slice A m c) := E1.out.bp.cell 0
    have x1 : w1.cell? ⟨Mb, 0, none⟩ = some (.pointer (some ⟨mb, 0, none⟩)) := E1.out.bm.cell 0
    have x2 : w1.cell? ⟨wb, 0, none⟩ = some (.func (.func 52) #[] #[.pointer (some ⟨w.heap.size, 0, none⟩), .pointer (some ⟨Mb, 0, none⟩), .pointer (some ⟨wb, 0, none⟩)]) := HWB.out.cell 0
    have HQ : Hid (∀ (W : World) (vr' vf' : Value) (rn' : List Pn) (fl' : List (List Nat)), MaE w1.drew W (w.heap.size + 1) mb 0 (.slice (some ⟨Rb, 0, none⟩) 0 L) (.slice (some ⟨Fb, 0, none⟩) 0 L) vr' vf' rn' fl' →
      W.cell? ⟨Mb, 0, none⟩ = some (.pointer (some ⟨mb, 0, none⟩)) ∧ W.cell? ⟨mb, 2, none⟩ = some (.bool false) ∧ W.cell? ⟨mb, 3, none⟩ = some (.int .u64 0) ∧ W.cell? ⟨mb, 4, none⟩ = some (.int .u64 0) ∧ W.cell? ⟨mb, 5, none⟩ = some (.int .u64 0) ∧ W.cell? ⟨mb, 6, none⟩ = some (.int .u64 0) ∧ W.cell? ⟨mb, 7, none⟩ = some (.int .u64 0) ∧ W.cell? ⟨mb, 8, none⟩ = some (.int .u64 0) ∧ W.cell? ⟨mb, 9, none⟩ = some (.int .u64 0) ∧ W.cell? ⟨mb, 10, none⟩ = some (.int .u64 0) ∧ W.frozen? ⟨mb, 2, none⟩ = false ∧ W.frozen? ⟨mb, 3, none⟩ = false ∧ W.frozen? ⟨mb, 4, none⟩ = false ∧ W.frozen? ⟨mb, 5, none⟩ = false ∧ W.frozen? ⟨mb, 6, none⟩ = false ∧ W.frozen? ⟨mb, 7, none⟩ = false ∧ W.frozen? ⟨mb, 8, none⟩ = false ∧ W.frozen? ⟨mb, 9, none⟩ = false ∧ W.frozen? ⟨mb, 10, none⟩ = false) := Lib.hid (fun W vr' vf' rn' fl' E => ⟨(E1.out.step E M1.out).bm.cell 0, (E.cel 2 (by decide) (by decide)).trans ((HB.out.bm.below B1'.out.drew).cell 2), (E.cel 3 (by decide) (by decide)).trans ((HB.out.bm.below B1'.out.drew).cell 3), (E.cel 4 (by decide) (by decide)).trans ((HB.out.bm.below B1'.out.drew).cell 4), (E.cel 5 (by decide) (by decide)).trans ((HB.out.bm.below B1'.out.drew).cell 5), (E.cel 6 (by decide) (by decide)).trans ((HB.out.bm.below B1'.out.drew).cell 6), (E.cel 7 (by decide) (by decide)).trans ((HB.out.bm.below B1'.out.drew).cell 7), (E.cel 8 (by decide) (by decide)).trans ((HB.out.bm.below B1'.out.drew).cell 8), (E.cel 9 (by decide) (by decide)).trans ((HB.out.bm.below B1'.out.drew).cell 9), (E.cel 10 (by decide) (by decide)).trans ((HB.out.bm.below B1'.out.drew).cell 10), (E.frz 2).trans (frozen_of_row _ _ 2 _ _ (HB.out.bm.below B1'.out.drew)), (E.frz 3).trans (frozen_of_row _ _ 3 _ _ (HB.out.bm.below B1'.out.drew)), (E.frz 4).trans (frozen_of_row _ _ 4 _ _ (HB.out.bm.below B1'.out.drew)), (E.frz 5).trans (frozen_of_row _ _ 5 _ _ (HB.out.bm.below B1'.out.drew)), (E.frz 6).trans (frozen_of_row _ _ 6 _ _ (HB.out.bm.below B1'.out.drew)), (E.frz 7).trans (frozen_of_row _ _ 7 _ _ (HB.out.bm.below B1'.out.drew)), (E.frz 8).trans (frozen_of_row _ _ 8 _ _ (HB.out.bm.below B1'.out.drew)), (E.frz 9).trans (frozen_of_row _ _ 9 _ _ (HB.out.bm.below B1'.out.drew)), (E.frz 10).trans (frozen_of_row _ _ 10 _ _ (HB.out.bm.below B1'.out.drew))⟩)
    have hw1 : IntKind.i64.wrap ((m : Int) - 1) = (m : Int) - 1 := by rw [IntKind.wrap_i64]; omega
    clear h hm h256 hrx e1 HWB B1 HB M0 hwb
    go_region_law (go_simp; go_at_call 52; with_reducible refine HW.out.mono ?_; intro e w9 hw; unfold WkR at hw; obtain ⟨fa, la, he, hpr, vr1, vf1, fl1, hs1, hE1, hF1⟩ := hw; unfold ptC at he; subst he; obtain ⟨y1, y2, y3, y4, y5, y6, y7, y8, y9, y10, f2, f3, f4, f5, f6, f7, f8, f9, f10⟩ := HQ.out _ _ _ _ _ hE1)
    all_goals
      have HM := mcm_made (r := rxP l) (f := fa) (l := la) (f0 := noW) (l0 := noW) (show MaM w9 (w.heap.size + 1) mb 0 vr1 vf1 (rgL (rxP l)) fl1 from hE1.m) hs1 (McW.of hF1 hpr HH256.out) y2 (pl_mk y3 y4 y5 y6 f3 f4 f5 f6) (pl_mk y7 y8 y9 y10 f7 f8 f9 f10)
      have HL := st11_bel ((BT.out.drew).trans ((hE1.bel M1.out).mono (by omega))) (show w.heap.size ≤ mb by omega) (rxP l).nul fa la
      have z1 := (World.cell?_of_block (a := ⟨Mb, 0, none⟩) (st11_keep w9 mb (rxP l).nul fa la n3)).trans y1
      unfold st11 at HM HL z1
      generalize World.setCell _ ⟨mb, 10, none⟩ _ = w10 at *
      replace HM := Lib.hid HM
      replace HL := Lib.hid HL
      clear y1 y2 y3 y4 y5 y6 y7 y8 y9 y10 f2 f3 f4 f5 f6 f7 f8 f9 f10 x0 x1 x2 hE1 hF1 hpr
      go_wp2
      go_ret
      exact ⟨HL.out, mb, vr1, vf1, fl1, fa, la, rfl, lmb, HM.out⟩

end Go.Proofs.YtfkljlncnfeklaaGreatDoor
