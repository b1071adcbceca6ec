/-
  DiagramMatchesReference: the walk. (Written by lmat.py.)
-/
import Derived.Test.YtmfinkaphglmjaaDoorNa
import Derived.Test.YtmfinkaphglmjaaDoorMi
import Derived.Test.YtmfinkaphglmjaaDoorNb
import Derived.Deep.RegionHeld3
namespace Go.Proofs.YtmfinkaphglmjaaDoor
open Go.RowKit Dg St
set_option linter.unusedVariables false
set_option linter.unusedSimpArgs false
attribute [local go_sem ↓] Go.wp_at_zero Go.wp_at_succ

def RdF (W : World) (A : Option Addr) (M : List Br) : Prop := Rd W W.heap.size A (up M)
theorem rrd {W W' : World} {A : Option Addr} {M : List Br} (h : Hid (RdF W A M)) (b : Below W.heap.size W W') : Hid (RdF W' A M) := Lib.hid ((h.out.below b).mono b.size)
theorem rrs {W : World} {g : Nat} {A : Option Addr} {M : List Br} (h : Hid (RdF W A M)) (hf : Hid (Fr A (g + 1))) (u v : Value) : Hid (RdF ((W.setCell ⟨g, 0, none⟩ u).setCell ⟨g, 1, none⟩ v) A M) := Lib.hid (rd_store h.out hf.out u v)
theorem bx_other {W : World} {g g' : Nat} {a b : Value} (h : Hid (B2 W g' a b)) (hne : g ≠ g') (u v : Value) : Hid (B2 ((W.setCell ⟨g, 0, none⟩ u).setCell ⟨g, 1, none⟩ v) g' a b) := Lib.hid ((h.out.other (p := ⟨g, 0, none⟩) hne u).other (p := ⟨g, 1, none⟩) hne v)
theorem bx_set {W : World} {g : Nat} {a b : Value} (h : Hid (B2 W g a b)) (u v : Value) : Hid (B2 ((W.setCell ⟨g, 0, none⟩ u).setCell ⟨g, 1, none⟩ v) g u v) := Lib.hid (((h.out.set (i := 0) (by omega) u).set (i := 1) (by omega) v).congr (fun i hi => by
  obtain rfl | rfl : i = 0 ∨ i = 1 := by omega
  all_goals rfl))
theorem same_ok {W : World} {A A' : Option Addr} {m c m' c' n : Nat} {M : List Br} (h : Hid (RdF W A M)) (h' : Hid (RdF W A' M)) (e : Hid (M.length = m)) (e' : Hid (M.length = m')) (hl : Hid (M.length ≤ 4096)) :
    Calls Tryd.prog 21 #[.agg #[.slice A m c, .int .i64 (n : Int)], .agg #[.slice A' m' c', .int .i64 (n : Int)]] W fun e w' => e = .returned (.bool true) ∧ Below W.heap.size W w' := by
  have k := rsame_any A A' c c' m m' (up M) (up M) (n : Int) (n : Int) W (Lib.hid (by rw [up_len]; exact e.out)) (Lib.hid (by rw [up_len]; exact e'.out)) (by have := e.out; have := hl.out; omega) h h'
  rw [decide_eq_true rfl, decide_eq_true rfl] at k
  exact k
theorem binR_len (k : Int) (h : Cfg → Bool) : (binR k h).1.length ≤ 4096 := by
  unfold binR
  generalize cn h = R
  obtain ⟨M, r⟩ := R
  by_cases hk : k = 0
  · rw [if_pos hk]
    by_cases hl : M.length ≤ 4096
    · rw [if_pos hl]; exact hl
    · rw [if_neg hl]; simp
  · rw [if_neg hk]; simp
set_option maxHeartbeats 1000000 in
theorem lfew_any (A : Option Addr) (m c : Nat) (r : Int) (w : World) : Calls Tryd.prog 16 #[.agg #[.slice A m c, .int .i64 r]] w fun e w' => e = .returned (.bool (decide (m ≤ 40))) ∧ Below w.heap.size w w' := by
  have X0 := nb2 w (.slice A m c) (.int .i64 r) 24
  have HB := Lib.hid (ab2 w (.cells #[.slice A m c, .int .i64 r] 24))
  obtain ⟨x0, x1, xn⟩ := xb2 X0
  by_cases h : m ≤ 40
  · rw [decide_eq_true h]
    have h' : (m : Int) ≤ 40 := by omega
    go_enter Tryd.func16, Tryd.ntmps16
    go_wp2
    go_ret
    exact ⟨rfl, HB.out⟩
  · rw [decide_eq_false h]
    have h' : ¬ (m : Int) ≤ 40 := by omega
    go_enter Tryd.func16, Tryd.ntmps16
    go_wp2
    go_ret
    exact ⟨rfl, HB.out⟩
/-- the two operations answer the same -/
abbrev Twin (w : World) (f g : Nat) (args : Array Value) (M : List Br) (n : Nat) (c : Int) : Prop := ∀ W, Below w.heap.size w W → Calls Tryd.prog f args W (fun e w' => RO W w' M n c e) ∧ Calls Tryd.prog g args W (fun e w' => RO W w' M n c e)
abbrev TwinB (w : World) (f g : Nat) (args : Array Value) (b : Bool) : Prop := ∀ W, Below w.heap.size w W → Calls Tryd.prog f args W (fun e w' => e = .returned (.bool b) ∧ Below W.heap.size W w') ∧ Calls Tryd.prog g args W (fun e w' => e = .returned (.bool b) ∧ Below W.heap.size W w')
abbrev TwinC (w : World) (f g : Nat) (args : Array Value) (b : Int) : Prop := ∀ W, Below w.heap.size w W → Calls Tryd.prog f args W (fun e w' => e = .returned (.int .i64 b) ∧ Below W.heap.size W w') ∧ Calls Tryd.prog g args W (fun e w' => e = .returned (.int .i64 b) ∧ Below W.heap.size W w')

theorem twins {w : World} {A0 : Option Addr} {m0 c0 : Nat} {l0 : List Bi} {r0 : Int} (h0 : Hid (DOk w (⟨A0, m0, c0, l0, r0⟩ : DA))) (q0 : m0 ≤ 40) {A1 : Option Addr} {m1 c1 : Nat} {l1 : List Bi} {r1 : Int} (h1 : Hid (DOk w (⟨A1, m1, c1, l1, r1⟩ : DA))) (q1 : m1 ≤ 40) {A2 : Option Addr} {m2 c2 : Nat} {l2 : List Bi} {r2 : Int} (h2 : Hid (DOk w (⟨A2, m2, c2, l2, r2⟩ : DA))) (q2 : m2 ≤ 40) (hin : Hid (Ins w 0)) :
    (∃ M n c, M.length ≤ 4096 ∧ Twin w 17 18 #[.agg #[.slice A0 m0 c0, .int .i64 r0], .agg #[.slice A1 m1 c1, .int .i64 r1]] M n c) ∧ (∃ M n c, M.length ≤ 4096 ∧ Twin w 19 20 #[.agg #[.slice A0 m0 c0, .int .i64 r0], .agg #[.slice A1 m1 c1, .int .i64 r1]] M n c) ∧ (∃ M n c, M.length ≤ 4096 ∧ Twin w 25 26 #[.agg #[.slice A0 m0 c0, .int .i64 r0], .agg #[.slice A1 m1 c1, .int .i64 r1]] M n c) ∧
    (∃ M n c, M.length ≤ 4096 ∧ Twin w 27 28 #[.agg #[.slice A0 m0 c0, .int .i64 r0], .agg #[.slice A1 m1 c1, .int .i64 r1], .agg #[.slice A2 m2 c2, .int .i64 r2]] M n c) ∧ (∃ M n c, M.length ≤ 4096 ∧ Twin w 29 30 #[.agg #[.slice A0 m0 c0, .int .i64 r0]] M n c) ∧
    (∃ b, TwinB w 31 32 #[.agg #[.slice A0 m0 c0, .int .i64 r0], .agg #[.slice A1 m1 c1, .int .i64 r1]] b) ∧ (∃ b, TwinB w 33 34 #[.agg #[.slice A0 m0 c0, .int .i64 r0], .agg #[.slice A1 m1 c1, .int .i64 r1]] b) ∧ (∃ b, TwinB w 24 21 #[.agg #[.slice A0 m0 c0, .int .i64 r0], .agg #[.slice A1 m1 c1, .int .i64 r1]] b) ∧ (∃ b, TwinC w 22 23 #[.agg #[.slice A0 m0 c0, .int .i64 r0]] b) := by
  refine ⟨⟨_, _, _, binR_len _ _, fun W hW => ⟨dand_any (dkh h0 hW) q0 (dkh h1 hW) q1 (rin hin hW), rand_any (dkh h0 hW) q0 (dkh h1 hW) q1⟩⟩, ⟨_, _, _, binR_len _ _, fun W hW => ⟨dor_any (dkh h0 hW) q0 (dkh h1 hW) q1 (rin hin hW), ror_any (dkh h0 hW) q0 (dkh h1 hW) q1⟩⟩, ⟨_, _, _, binR_len _ _, fun W hW => ⟨dxor_any (dkh h0 hW) q0 (dkh h1 hW) q1 (rin hin hW), rxor_any (dkh h0 hW) q0 (dkh h1 hW) q1⟩⟩,
    ⟨_, _, _, binR_len _ _, fun W hW => ⟨dchoose_any (dkh h0 hW) q0 (dkh h1 hW) q1 (dkh h2 hW) q2 (rin hin hW), rchoose_any (dkh h0 hW) q0 (dkh h1 hW) q1 (dkh h2 hW) q2⟩⟩, ⟨_, _, _, binR_len _ _, fun W hW => ⟨dnot_any (dkh h0 hW) q0, rnot_any (dkh h0 hW) q0⟩⟩,
    ⟨_, fun W hW => ⟨dwithin_any (dkh h0 hW) q0 (dkh h1 hW) q1 (rin hin hW), rwithin_any (dkh h0 hW) q0 (dkh h1 hW) q1⟩⟩, ⟨_, fun W hW => ⟨ddisjoint_any (dkh h0 hW) q0 (dkh h1 hW) q1 (rin hin hW), rdisjoint_any (dkh h0 hW) q0 (dkh h1 hW) q1⟩⟩, ⟨decide (r0 = r1) && decide (l0 = l1), fun W hW => ?_⟩, ⟨chk l0 r0, fun W hW => ?_⟩⟩
  · obtain ⟨a0, e0⟩ := dok_rd (dkh h0 hW).out
    obtain ⟨a1, e1⟩ := dok_rd (dkh h1 hW).out
    exact ⟨same_any A0 A1 c0 c1 m0 m1 l0 l1 r0 r1 W (Lib.hid e0) (Lib.hid e1) (by omega) (Lib.hid a0) (Lib.hid a1), rsame_any A0 A1 c0 c1 m0 m1 l0 l1 r0 r1 W (Lib.hid e0) (Lib.hid e1) (by omega) (Lib.hid a0) (Lib.hid a1)⟩
  · have k := (dkh h0 hW).out
    exact ⟨check_any l0 r0 m0 c0 A0 W (Lib.hid k.rd) (Lib.hid k.wi) (Lib.hid k.len) k.lm k.mc (Lib.hid k.ri), rcheck_any l0 r0 m0 c0 A0 W (dkh h0 hW) (by omega)⟩

set_option maxHeartbeats 40000000 in
set_option maxRecDepth 100000 in
theorem lawMat_walk (A0 : Option Addr) (m0 c0 : Nat) (l0 : List Bi) (r0 : Int) (A1 : Option Addr) (m1 c1 : Nat) (l1 : List Bi) (r1 : Int) (A2 : Option Addr) (m2 c2 : Nat) (l2 : List Bi) (r2 : Int) (w : World) (h0 : Hid (m0 ≤ 40 → DOk w (⟨A0, m0, c0, l0, r0⟩ : DA))) (h1 : Hid (m1 ≤ 40 → DOk w (⟨A1, m1, c1, l1, r1⟩ : DA))) (h2 : Hid (m2 ≤ 40 → DOk w (⟨A2, m2, c2, l2, r2⟩ : DA))) (HIN : Hid (Ins w 0)) :
    Calls Tryd.prog 3 #[.agg #[.slice A0 m0 c0, .int .i64 r0], .agg #[.slice A1 m1 c1, .int .i64 r1], .agg #[.slice A2 m2 c2, .int .i64 r2]] w fun e w' => e = .returned (.bool true) ∧ Below w.heap.size w w' := by
  have b0 := ab2 w (.cells #[.slice A0 m0 c0, .int .i64 r0] 24)
  have b1 := ab2 (w.alloc (.cells #[.slice A0 m0 c0, .int .i64 r0] 24)) (.cells #[.slice A1 m1 c1, .int .i64 r1] 24)
  have b2 := ab2 ((w.alloc (.cells #[.slice A0 m0 c0, .int .i64 r0] 24)).alloc (.cells #[.slice A1 m1 c1, .int .i64 r1] 24)) (.cells #[.slice A2 m2 c2, .int .i64 r2] 24)
  have X0 : Hid (Blk (w.alloc (.cells #[.slice A0 m0 c0, .int .i64 r0] 24)) (w.heap.size) 2 (fun i => ([.slice A0 m0 c0, .int .i64 r0] : List Value).getD i undef)) := Lib.hid (Blk.new (w := w) (H := w.heap.size) (by simp) [.slice A0 m0 c0, .int .i64 r0] 24)
  replace X0 : Hid (Blk ((w.alloc (.cells #[.slice A0 m0 c0, .int .i64 r0] 24)).alloc (.cells #[.slice A1 m1 c1, .int .i64 r1] 24)) (w.heap.size) 2 (fun i => ([.slice A0 m0 c0, .int .i64 r0] : List Value).getD i undef)) := Lib.hid (X0.out.below (by omega) b1)
  replace X0 : Hid (Blk (((w.alloc (.cells #[.slice A0 m0 c0, .int .i64 r0] 24)).alloc (.cells #[.slice A1 m1 c1, .int .i64 r1] 24)).alloc (.cells #[.slice A2 m2 c2, .int .i64 r2] 24)) (w.heap.size) 2 (fun i => ([.slice A0 m0 c0, .int .i64 r0] : List Value).getD i undef)) := Lib.hid (X0.out.below (by omega) b2)
  have X1 : Hid (Blk ((w.alloc (.cells #[.slice A0 m0 c0, .int .i64 r0] 24)).alloc (.cells #[.slice A1 m1 c1, .int .i64 r1] 24)) (w.heap.size + 1) 2 (fun i => ([.slice A1 m1 c1, .int .i64 r1] : List Value).getD i undef)) := Lib.hid (Blk.new (w := (w.alloc (.cells #[.slice A0 m0 c0, .int .i64 r0] 24))) (H := w.heap.size + 1) (by simp) [.slice A1 m1 c1, .int .i64 r1] 24)
  replace X1 : Hid (Blk (((w.alloc (.cells #[.slice A0 m0 c0, .int .i64 r0] 24)).alloc (.cells #[.slice A1 m1 c1, .int .i64 r1] 24)).alloc (.cells #[.slice A2 m2 c2, .int .i64 r2] 24)) (w.heap.size + 1) 2 (fun i => ([.slice A1 m1 c1, .int .i64 r1] : List Value).getD i undef)) := Lib.hid (X1.out.below (by omega) b2)
  have X2 : Hid (Blk (((w.alloc (.cells #[.slice A0 m0 c0, .int .i64 r0] 24)).alloc (.cells #[.slice A1 m1 c1, .int .i64 r1] 24)).alloc (.cells #[.slice A2 m2 c2, .int .i64 r2] 24)) (w.heap.size + 1 + 1) 2 (fun i => ([.slice A2 m2 c2, .int .i64 r2] : List Value).getD i undef)) := Lib.hid (Blk.new (w := ((w.alloc (.cells #[.slice A0 m0 c0, .int .i64 r0] 24)).alloc (.cells #[.slice A1 m1 c1, .int .i64 r1] 24))) (H := w.heap.size + 1 + 1) (by simp) [.slice A2 m2 c2, .int .i64 r2] 24)
  have HB0 : Hid (Below w.heap.size w (((w.alloc (.cells #[.slice A0 m0 c0, .int .i64 r0] 24)).alloc (.cells #[.slice A1 m1 c1, .int .i64 r1] 24)).alloc (.cells #[.slice A2 m2 c2, .int .i64 r2] 24))) := Lib.hid ((b0.trans (b1.mono b0.size)).trans (b2.mono (b0.trans (b1.mono b0.size)).size))
  have HW0 : Hid ((((w.alloc (.cells #[.slice A0 m0 c0, .int .i64 r0] 24)).alloc (.cells #[.slice A1 m1 c1, .int .i64 r1] 24)).alloc (.cells #[.slice A2 m2 c2, .int .i64 r2] 24)).heap.size = w.heap.size + 1 + 1 + 1) := Lib.hid (by simp)
  clear b0 b1 b2
  go_enter Tryd.func3, Tryd.ntmps3
  go_upto_region 1 with fail
  generalize (((w.alloc (.cells #[.slice A0 m0 c0, .int .i64 r0] 24)).alloc (.cells #[.slice A1 m1 c1, .int .i64 r1] 24)).alloc (.cells #[.slice A2 m2 c2, .int .i64 r2] 24)) = w1 at *
  have HG : Hid (w.heap.size + 1 + 1 < w1.heap.size) := Lib.hid (by have := HW0.out; omega)
  have HB := HB0
  clear HB0 HW0
  go_wp2_with fail
  with_reducible refine (sanity_ok _ (rin HIN HB.out)).mono ?_
  rintro e w2 ⟨rfl, b2⟩
  replace X0 := rb2 X0 b2
  replace X1 := rb2 X1 b2
  replace X2 := rb2 X2 b2
  replace HB := btr HB b2 HB.out.size
  clear b2
  obtain ⟨pX0, sX0, nX0⟩ := xb2 X0
  obtain ⟨pX1, sX1, nX1⟩ := xb2 X1
  obtain ⟨pX2, sX2, nX2⟩ := xb2 X2
  by_cases q0 : m0 ≤ 40
  rotate_left
  · have hf := lfew_any A0 m0 c0 r0
    rw [decide_eq_false q0] at hf
    have HF := Lib.hid hf
    clear hf
    go_wp2_with fail
    with_reducible refine (HF.out _).mono ?_
    rintro e w3 ⟨rfl, b3⟩
    have HB3 := btr HB b3 HB.out.size
    clear b3
    go_wp2
    go_ret
    exact ⟨rfl, HB3.out⟩
  have hf0 := lfew_any A0 m0 c0 r0
  rw [decide_eq_true q0] at hf0
  have HF0 := Lib.hid hf0
  clear hf0
  go_wp2_with fail
  with_reducible refine (HF0.out _).mono ?_
  rintro e v0 ⟨rfl, b3⟩
  clear pX0 sX0 nX0 pX1 sX1 nX1 pX2 sX2 nX2
  replace X0 := rb2 X0 b3
  replace X1 := rb2 X1 b3
  replace X2 := rb2 X2 b3
  replace HB := btr HB b3 HB.out.size
  clear b3
  clear HF0
  obtain ⟨pX0, sX0, nX0⟩ := xb2 X0
  obtain ⟨pX1, sX1, nX1⟩ := xb2 X1
  obtain ⟨pX2, sX2, nX2⟩ := xb2 X2
  by_cases q1 : m1 ≤ 40
  rotate_left
  · have hf := lfew_any A1 m1 c1 r1
    rw [decide_eq_false q1] at hf
    have HF := Lib.hid hf
    clear hf
    go_wp2_with fail
    with_reducible refine (HF.out _).mono ?_
    rintro e w3 ⟨rfl, b3⟩
    have HB3 := btr HB b3 HB.out.size
    clear b3
    go_wp2
    go_ret
    exact ⟨rfl, HB3.out⟩
  have hf1 := lfew_any A1 m1 c1 r1
  rw [decide_eq_true q1] at hf1
  have HF1 := Lib.hid hf1
  clear hf1
  go_wp2_with fail
  with_reducible refine (HF1.out _).mono ?_
  rintro e v1 ⟨rfl, b3⟩
  clear pX0 sX0 nX0 pX1 sX1 nX1 pX2 sX2 nX2
  replace X0 := rb2 X0 b3
  replace X1 := rb2 X1 b3
  replace X2 := rb2 X2 b3
  replace HB := btr HB b3 HB.out.size
  clear b3
  clear HF1
  obtain ⟨pX0, sX0, nX0⟩ := xb2 X0
  obtain ⟨pX1, sX1, nX1⟩ := xb2 X1
  obtain ⟨pX2, sX2, nX2⟩ := xb2 X2
  by_cases q2 : m2 ≤ 40
  rotate_left
  · have hf := lfew_any A2 m2 c2 r2
    rw [decide_eq_false q2] at hf
    have HF := Lib.hid hf
    clear hf
    go_wp2_with fail
    with_reducible refine (HF.out _).mono ?_
    rintro e w3 ⟨rfl, b3⟩
    have HB3 := btr HB b3 HB.out.size
    clear b3
    go_wp2
    go_ret
    exact ⟨rfl, HB3.out⟩
  have hf2 := lfew_any A2 m2 c2 r2
  rw [decide_eq_true q2] at hf2
  have HF2 := Lib.hid hf2
  clear hf2
  go_wp2_with fail
  with_reducible refine (HF2.out _).mono ?_
  rintro e v2 ⟨rfl, b3⟩
  clear pX0 sX0 nX0 pX1 sX1 nX1 pX2 sX2 nX2
  replace X0 := rb2 X0 b3
  replace X1 := rb2 X1 b3
  replace X2 := rb2 X2 b3
  replace HB := btr HB b3 HB.out.size
  clear b3
  clear HF2
  obtain ⟨⟨Ma, na, za, la, t1⟩, ⟨Mo, no, zo, lo, t2⟩, ⟨Mx, nx, zx, lx, t3⟩, ⟨Mc, nc, zc, lc, t4⟩, ⟨Mn, nn, zn, ln, t5⟩, ⟨bw, t6⟩, ⟨bd, t7⟩, ⟨bs, t8⟩, ⟨kk, t9⟩⟩ := twins (Lib.hid (h0.out q0)) q0 (Lib.hid (h1.out q1)) q1 (Lib.hid (h2.out q2)) q2 HIN
  have LA := Lib.hid la
  have LO := Lib.hid lo
  have LX := Lib.hid lx
  have LC := Lib.hid lc
  have LN := Lib.hid ln
  have TA := Lib.hid t1
  have TO := Lib.hid t2
  have TX := Lib.hid t3
  have TC := Lib.hid t4
  have TN := Lib.hid t5
  have TW := Lib.hid t6
  have TD := Lib.hid t7
  have TS := Lib.hid t8
  have TK := Lib.hid t9
  clear la lo lx lc ln t1 t2 t3 t4 t5 t6 t7 t8 t9 h0 h1 h2 HIN q0 q1 q2
  obtain ⟨pX0, sX0, nX0⟩ := xb2 X0
  obtain ⟨pX1, sX1, nX1⟩ := xb2 X1
  go_wp2_with fail
  with_reducible refine ((TA.out _ HB.out).1).mono ?_
  rintro e ua ⟨⟨Aa, ma, ca, rfl, ea, ra, fa⟩, b5⟩
  clear pX0 sX0 nX0 pX1 sX1 nX1
  have HSa := Lib.hid HB.out.size
  have hsza := Lib.hid b5.size
  replace X0 := rb2 X0 b5
  replace X1 := rb2 X1 b5
  replace X2 := rb2 X2 b5
  replace HB := btr HB b5 HB.out.size
  clear b5
  have Ra : Hid (RdF ua Aa Ma) := Lib.hid ra
  have La := Lib.hid ea
  have Fa := Lib.hid fa
  clear ea ra fa
  clear HSa hsza Fa
  obtain ⟨pX0, sX0, nX0⟩ := xb2 X0
  obtain ⟨pX1, sX1, nX1⟩ := xb2 X1
  go_wp2_with fail
  clear pX0 sX0 nX0 pX1 sX1 nX1
  have ab := ab2 ua (.cells #[.slice Aa ma ca, .int .i64 (na : Int)] 24)
  have Xx := nb2 ua (.slice Aa ma ca) (.int .i64 (na : Int)) 24
  have hltXx : Hid (w.heap.size + 1 + 1 < ua.heap.size) := Lib.hid (X2.out.lt (by omega))
  replace X0 := rb2 X0 ab
  replace X1 := rb2 X1 ab
  replace X2 := rb2 X2 ab
  replace Ra := rrd Ra ab
  replace HB := btr HB ab HB.out.size
  clear ab
  generalize ua.alloc (.cells #[.slice Aa ma ca, .int .i64 (na : Int)] 24) = ka at *
  generalize hga : ua.heap.size = gx at *
  with_reducible refine ((TA.out _ HB.out).2).mono ?_
  rintro e ub ⟨⟨Ab, mb, cb, rfl, eb, rb, fb⟩, b5⟩
  replace X0 := rb2 X0 b5
  replace X1 := rb2 X1 b5
  replace X2 := rb2 X2 b5
  replace Xx := rb2 Xx b5
  replace Ra := rrd Ra b5
  replace HB := btr HB b5 HB.out.size
  clear b5
  have Rb : Hid (RdF ub Ab Ma) := Lib.hid rb
  have Lb := Lib.hid eb
  clear eb rb fb
  obtain ⟨pX0, sX0, nX0⟩ := xb2 X0
  obtain ⟨pX1, sX1, nX1⟩ := xb2 X1
  go_wp2_with fail
  clear pX0 sX0 nX0 pX1 sX1 nX1
  have ab := ab2 ub (.cells #[.slice Ab mb cb, .int .i64 (na : Int)] 24)
  have Xy := nb2 ub (.slice Ab mb cb) (.int .i64 (na : Int)) 24
  have hltXy : Hid (gx < ub.heap.size) := Lib.hid (Xx.out.lt (by omega))
  replace X0 := rb2 X0 ab
  replace X1 := rb2 X1 ab
  replace X2 := rb2 X2 ab
  replace Xx := rb2 Xx ab
  replace Ra := rrd Ra ab
  replace Rb := rrd Rb ab
  replace HB := btr HB ab HB.out.size
  clear ab
  generalize ub.alloc (.cells #[.slice Ab mb cb, .int .i64 (na : Int)] 24) = kb at *
  generalize hgb : ub.heap.size = gy at *
  with_reducible refine ((TO.out _ HB.out).1).mono ?_
  rintro e uc ⟨⟨Ac, mc, cc, rfl, ec, rc, fc⟩, b5⟩
  replace X0 := rb2 X0 b5
  replace X1 := rb2 X1 b5
  replace X2 := rb2 X2 b5
  replace Xx := rb2 Xx b5
  replace Xy := rb2 Xy b5
  replace Ra := rrd Ra b5
  replace Rb := rrd Rb b5
  replace HB := btr HB b5 HB.out.size
  clear b5
  have Rc : Hid (RdF uc Ac Mo) := Lib.hid rc
  have Lc := Lib.hid ec
  clear ec rc fc
  obtain ⟨pX0, sX0, nX0⟩ := xb2 X0
  obtain ⟨pX1, sX1, nX1⟩ := xb2 X1
  go_wp2_with fail
  clear pX0 sX0 nX0 pX1 sX1 nX1
  have ab := ab2 uc (.cells #[.slice Ac mc cc, .int .i64 (no : Int)] 24)
  have Xz := nb2 uc (.slice Ac mc cc) (.int .i64 (no : Int)) 24
  have hltXz : Hid (gy < uc.heap.size) := Lib.hid (Xy.out.lt (by omega))
  replace X0 := rb2 X0 ab
  replace X1 := rb2 X1 ab
  replace X2 := rb2 X2 ab
  replace Xx := rb2 Xx ab
  replace Xy := rb2 Xy ab
  replace Ra := rrd Ra ab
  replace Rb := rrd Rb ab
  replace Rc := rrd Rc ab
  replace HB := btr HB ab HB.out.size
  clear ab
  generalize uc.alloc (.cells #[.slice Ac mc cc, .int .i64 (no : Int)] 24) = kc at *
  generalize hgc : uc.heap.size = gz at *
  with_reducible refine ((TO.out _ HB.out).2).mono ?_
  rintro e uj ⟨⟨Aj, mj, cj, rfl, ej, rj, fj⟩, b5⟩
  replace X0 := rb2 X0 b5
  replace X1 := rb2 X1 b5
  replace X2 := rb2 X2 b5
  replace Xx := rb2 Xx b5
  replace Xy := rb2 Xy b5
  replace Xz := rb2 Xz b5
  replace Ra := rrd Ra b5
  replace Rb := rrd Rb b5
  replace Rc := rrd Rc b5
  replace HB := btr HB b5 HB.out.size
  clear b5
  have Rj : Hid (RdF uj Aj Mo) := Lib.hid rj
  have Lj := Lib.hid ej
  clear ej rj fj
  go_upto_region 8 with fail
  have ab := ab2 uj (.cells #[.slice Aj mj cj, .int .i64 (no : Int)] 24)
  have Xu := nb2 uj (.slice Aj mj cj) (.int .i64 (no : Int)) 24
  have hltXu : Hid (gz < uj.heap.size) := Lib.hid (Xz.out.lt (by omega))
  replace X0 := rb2 X0 ab
  replace X1 := rb2 X1 ab
  replace X2 := rb2 X2 ab
  replace Xx := rb2 Xx ab
  replace Xy := rb2 Xy ab
  replace Xz := rb2 Xz ab
  replace Ra := rrd Ra ab
  replace Rb := rrd Rb ab
  replace Rc := rrd Rc ab
  replace Rj := rrd Rj ab
  replace HB := btr HB ab HB.out.size
  clear ab
  generalize uj.alloc (.cells #[.slice Aj mj cj, .int .i64 (no : Int)] 24) = kj at *
  generalize hgj : uj.heap.size = gu at *
  have dr := (Below.refl kj.heap.size kj).drew
  replace X0 := rb2 X0 dr
  replace X1 := rb2 X1 dr
  replace X2 := rb2 X2 dr
  replace Xx := rb2 Xx dr
  replace Xy := rb2 Xy dr
  replace Xz := rb2 Xz dr
  replace Xu := rb2 Xu dr
  replace Ra := rrd Ra dr
  replace Rb := rrd Rb dr
  replace Rc := rrd Rc dr
  replace Rj := rrd Rj dr
  replace HB := btr HB dr HB.out.size
  clear dr
  obtain ⟨pX0, sX0, nX0⟩ := xb2 X0
  obtain ⟨pX1, sX1, nX1⟩ := xb2 X1
  obtain ⟨pXx, sXx, nXx⟩ := xb2 Xx
  obtain ⟨pXy, sXy, nXy⟩ := xb2 Xy
  obtain ⟨pXz, sXz, nXz⟩ := xb2 Xz
  obtain ⟨pXu, sXu, nXu⟩ := xb2 Xu
  refine wp_region_held_drew (S := (fun w' => w'.cell? ⟨w.heap.size, 0, none⟩ = some (.slice A0 m0 c0) ∧ w'.cell? ⟨w.heap.size, 1, none⟩ = some (.int .i64 r0) ∧ w'.cell? ⟨w.heap.size + 1, 0, none⟩ = some (.slice A1 m1 c1) ∧ w'.cell? ⟨w.heap.size + 1, 1, none⟩ = some (.int .i64 r1) ∧ w'.cell? ⟨gx, 0, none⟩ = some (.slice Aa ma ca) ∧ w'.cell? ⟨gx, 1, none⟩ = some (.int .i64 (na : Int)) ∧ w'.cell? ⟨gy, 0, none⟩ = some (.slice Ab mb cb) ∧ w'.cell? ⟨gy, 1, none⟩ = some (.int .i64 (na : Int)) ∧ w'.cell? ⟨gz, 0, none⟩ = some (.slice Ac mc cc) ∧ w'.cell? ⟨gz, 1, none⟩ = some (.int .i64 (no : Int)) ∧ w'.cell? ⟨gu, 0, none⟩ = some (.slice Aj mj cj) ∧ w'.cell? ⟨gu, 1, none⟩ = some (.int .i64 (no : Int)))) (by kernel_rfl) ?_ (fun hHeld => ?_)
  · (try dsimp only); first | (refine ⟨?_, ?_, ?_, ?_, ?_, ?_, ?_, ?_, ?_, ?_, ?_, ?_⟩ <;> (with_reducible assumption)) | go_keep
  refine hTake (i := 0) (v := .agg #[.slice Aa ma ca, .int .i64 (na : Int)]) 55 rfl rfl (by kernel_rfl) (by kernel_rfl) (by kernel_rfl) (fun _ _ _ h => h) (Or.inl ⟨by rfl, ?_⟩) hHeld ?_
  · (intro wS hSw; (try dsimp only at hSw); go_simp)
  simp only [Act.put, List.setIfInBounds_toArray, List.set_cons_zero, List.set_cons_succ]
  refine hTake (i := 1) (v := .agg #[.slice Ab mb cb, .int .i64 (na : Int)]) 56 rfl rfl (by kernel_rfl) (by kernel_rfl) (by kernel_rfl) (fun _ _ _ h => h) (Or.inl ⟨by rfl, ?_⟩) hHeld ?_
  · (intro wS hSw; (try dsimp only at hSw); go_simp)
  simp only [Act.put, List.setIfInBounds_toArray, List.set_cons_zero, List.set_cons_succ]
  refine wpAnyH_ready (rs := [2]) (by kernel_rfl) (by simp) ?_
  refine AllReadyH.cons rfl (fun K hK => ?_) AllReadyH.nil
  go_simp
  go_at_call 21
  with_reducible refine (same_ok Ra Rb La Lb LA).mono ?_
  rintro e wn2 ⟨rfl, b9⟩
  clear pX0 sX0 nX0 pX1 sX1 nX1 pXx sXx nXx pXy sXy nXy pXz sXz nXz pXu sXu nXu
  replace X0 := rb2 X0 b9
  replace X1 := rb2 X1 b9
  replace X2 := rb2 X2 b9
  replace Xx := rb2 Xx b9
  replace Xy := rb2 Xy b9
  replace Xz := rb2 Xz b9
  replace Xu := rb2 Xu b9
  replace Ra := rrd Ra b9
  replace Rb := rrd Rb b9
  replace Rc := rrd Rc b9
  replace Rj := rrd Rj b9
  replace HB := btr HB b9 HB.out.size
  obtain ⟨pX0, sX0, nX0⟩ := xb2 X0
  obtain ⟨pX1, sX1, nX1⟩ := xb2 X1
  obtain ⟨pXx, sXx, nXx⟩ := xb2 Xx
  obtain ⟨pXy, sXy, nXy⟩ := xb2 Xy
  obtain ⟨pXz, sXz, nXz⟩ := xb2 Xz
  obtain ⟨pXu, sXu, nXu⟩ := xb2 Xu
  clear b9
  go_wp2_with fail
  refine hK.out _ _ ?_ (fun hHeld => ?_)
  · (try dsimp only); first | (refine ⟨?_, ?_, ?_, ?_, ?_, ?_, ?_, ?_, ?_, ?_, ?_, ?_⟩ <;> (with_reducible assumption)) | go_keep
  clear hK K
  try simp only [Act.put, List.setIfInBounds_toArray, List.set_cons_zero, List.set_cons_succ]
  refine hTake (i := 3) (v := .bool false) 58 rfl rfl (by kernel_rfl) (by kernel_rfl) (by kernel_rfl) (fun _ _ _ h => h) (Or.inl ⟨by rfl, ?_⟩) hHeld ?_
  · (intro wS hSw; (try dsimp only at hSw); go_simp)
  simp only [Act.put, List.setIfInBounds_toArray, List.set_cons_zero, List.set_cons_succ]
  refine hTake (i := 4) (v := .bool false) 59 rfl rfl (by kernel_rfl) (by kernel_rfl) (by kernel_rfl) (fun _ _ _ h => h) (Or.inl ⟨by rfl, ?_⟩) hHeld ?_
  · (intro wS hSw; (try dsimp only at hSw); go_simp)
  simp only [Act.put, List.setIfInBounds_toArray, List.set_cons_zero, List.set_cons_succ]
  refine hTake (i := 5) (v := .int .i64 za) 60 rfl rfl (by kernel_rfl) (by kernel_rfl) (by kernel_rfl) (fun _ _ _ h => h) (Or.inl ⟨by rfl, ?_⟩) hHeld ?_
  · (intro wS hSw; (try dsimp only at hSw); go_simp)
  simp only [Act.put, List.setIfInBounds_toArray, List.set_cons_zero, List.set_cons_succ]
  refine hTake (i := 6) (v := .int .i64 za) 61 rfl rfl (by kernel_rfl) (by kernel_rfl) (by kernel_rfl) (fun _ _ _ h => h) (Or.inl ⟨by rfl, ?_⟩) hHeld ?_
  · (intro wS hSw; (try dsimp only at hSw); go_simp)
  simp only [Act.put, List.setIfInBounds_toArray, List.set_cons_zero, List.set_cons_succ]
  refine hTake (i := 7) (v := .bool false) 62 rfl rfl (by kernel_rfl) (by kernel_rfl) (by kernel_rfl) (fun _ _ _ h => h) (Or.inl ⟨by rfl, ?_⟩) hHeld ?_
  · (intro wS hSw; (try dsimp only at hSw); go_simp)
  simp only [Act.put, List.setIfInBounds_toArray, List.set_cons_zero, List.set_cons_succ]
  refine hTake (i := 8) (v := .bool false) 63 rfl rfl (by kernel_rfl) (by kernel_rfl) (by kernel_rfl) (fun _ _ _ h => h) (Or.inl ⟨by rfl, ?_⟩) hHeld ?_
  · (intro wS hSw; (try dsimp only at hSw); go_simp)
  simp only [Act.put, List.setIfInBounds_toArray, List.set_cons_zero, List.set_cons_succ]
  refine hTake (i := 9) (v := .bool false) 64 rfl rfl (by kernel_rfl) (by kernel_rfl) (by kernel_rfl) (fun _ _ _ h => h) (Or.inl ⟨by rfl, ?_⟩) hHeld ?_
  · (intro wS hSw; (try dsimp only at hSw); go_simp)
  simp only [Act.put, List.setIfInBounds_toArray, List.set_cons_zero, List.set_cons_succ]
  refine hTake (i := 10) (v := .agg #[.slice Ac mc cc, .int .i64 (no : Int)]) 65 rfl rfl (by kernel_rfl) (by kernel_rfl) (by kernel_rfl) (fun _ _ _ h => h) (Or.inl ⟨by rfl, ?_⟩) hHeld ?_
  · (intro wS hSw; (try dsimp only at hSw); go_simp)
  simp only [Act.put, List.setIfInBounds_toArray, List.set_cons_zero, List.set_cons_succ]
  refine hTake (i := 11) (v := .agg #[.slice Aj mj cj, .int .i64 (no : Int)]) 66 rfl rfl (by kernel_rfl) (by kernel_rfl) (by kernel_rfl) (fun _ _ _ h => h) (Or.inl ⟨by rfl, ?_⟩) hHeld ?_
  · (intro wS hSw; (try dsimp only at hSw); go_simp)
  simp only [Act.put, List.setIfInBounds_toArray, List.set_cons_zero, List.set_cons_succ]
  refine wpAnyH_ready (rs := [12]) (by kernel_rfl) (by simp) ?_
  refine AllReadyH.cons rfl (fun K hK => ?_) AllReadyH.nil
  go_simp
  go_at_call 21
  with_reducible refine (same_ok Rc Rj Lc Lj LO).mono ?_
  rintro e wn12 ⟨rfl, b9⟩
  clear pX0 sX0 nX0 pX1 sX1 nX1 pXx sXx nXx pXy sXy nXy pXz sXz nXz pXu sXu nXu
  replace X0 := rb2 X0 b9
  replace X1 := rb2 X1 b9
  replace X2 := rb2 X2 b9
  replace Xx := rb2 Xx b9
  replace Xy := rb2 Xy b9
  replace Xz := rb2 Xz b9
  replace Xu := rb2 Xu b9
  replace Ra := rrd Ra b9
  replace Rb := rrd Rb b9
  replace Rc := rrd Rc b9
  replace Rj := rrd Rj b9
  replace HB := btr HB b9 HB.out.size
  obtain ⟨pX0, sX0, nX0⟩ := xb2 X0
  obtain ⟨pX1, sX1, nX1⟩ := xb2 X1
  obtain ⟨pXx, sXx, nXx⟩ := xb2 Xx
  obtain ⟨pXy, sXy, nXy⟩ := xb2 Xy
  obtain ⟨pXz, sXz, nXz⟩ := xb2 Xz
  obtain ⟨pXu, sXu, nXu⟩ := xb2 Xu
  clear b9
  go_wp2_with fail
  refine hK.out _ _ ?_ (fun hHeld => ?_)
  · (try dsimp only); first | (refine ⟨?_, ?_, ?_, ?_, ?_, ?_, ?_, ?_, ?_, ?_, ?_, ?_⟩ <;> (with_reducible assumption)) | go_keep
  clear hK K
  try simp only [Act.put, List.setIfInBounds_toArray, List.set_cons_zero, List.set_cons_succ]
  refine hTake (i := 13) (v := .bool false) 68 rfl rfl (by kernel_rfl) (by kernel_rfl) (by kernel_rfl) (fun _ _ _ h => h) (Or.inl ⟨by rfl, ?_⟩) hHeld ?_
  · (intro wS hSw; (try dsimp only at hSw); go_simp)
  simp only [Act.put, List.setIfInBounds_toArray, List.set_cons_zero, List.set_cons_succ]
  refine hTake (i := 14) (v := .bool false) 69 rfl rfl (by kernel_rfl) (by kernel_rfl) (by kernel_rfl) (fun _ _ _ h => h) (Or.inl ⟨by rfl, ?_⟩) hHeld ?_
  · (intro wS hSw; (try dsimp only at hSw); go_simp)
  simp only [Act.put, List.setIfInBounds_toArray, List.set_cons_zero, List.set_cons_succ]
  refine hTake (i := 15) (v := .bool false) 70 rfl rfl (by kernel_rfl) (by kernel_rfl) (by kernel_rfl) (fun _ _ _ h => h) (Or.inl ⟨by rfl, ?_⟩) hHeld ?_
  · (intro wS hSw; (try dsimp only at hSw); go_simp)
  simp only [Act.put, List.setIfInBounds_toArray, List.set_cons_zero, List.set_cons_succ]
  refine hTake (i := 16) (v := .int .i64 zo) 71 rfl rfl (by kernel_rfl) (by kernel_rfl) (by kernel_rfl) (fun _ _ _ h => h) (Or.inl ⟨by rfl, ?_⟩) hHeld ?_
  · (intro wS hSw; (try dsimp only at hSw); go_simp)
  simp only [Act.put, List.setIfInBounds_toArray, List.set_cons_zero, List.set_cons_succ]
  refine hTake (i := 17) (v := .int .i64 zo) 72 rfl rfl (by kernel_rfl) (by kernel_rfl) (by kernel_rfl) (fun _ _ _ h => h) (Or.inl ⟨by rfl, ?_⟩) hHeld ?_
  · (intro wS hSw; (try dsimp only at hSw); go_simp)
  simp only [Act.put, List.setIfInBounds_toArray, List.set_cons_zero, List.set_cons_succ]
  refine hTake (i := 18) (v := .bool false) 73 rfl rfl (by kernel_rfl) (by kernel_rfl) (by kernel_rfl) (fun _ _ _ h => h) (Or.inl ⟨by rfl, ?_⟩) hHeld ?_
  · (intro wS hSw; (try dsimp only at hSw); go_simp)
  simp only [Act.put, List.setIfInBounds_toArray, List.set_cons_zero, List.set_cons_succ]
  refine hTake (i := 19) (v := .bool false) 74 rfl rfl (by kernel_rfl) (by kernel_rfl) (by kernel_rfl) (fun _ _ _ h => h) (Or.inl ⟨by rfl, ?_⟩) hHeld ?_
  · (intro wS hSw; (try dsimp only at hSw); go_simp)
  simp only [Act.put, List.setIfInBounds_toArray, List.set_cons_zero, List.set_cons_succ]
  refine hTake (i := 20) (v := .bool false) 75 rfl rfl (by kernel_rfl) (by kernel_rfl) (by kernel_rfl) (fun _ _ _ h => h) (Or.inl ⟨by rfl, ?_⟩) hHeld ?_
  · (intro wS hSw; (try dsimp only at hSw); go_simp)
  simp only [Act.put, List.setIfInBounds_toArray, List.set_cons_zero, List.set_cons_succ]
  refine hTake (i := 21) (v := .agg #[.slice A0 m0 c0, .int .i64 r0]) 76 rfl rfl (by kernel_rfl) (by kernel_rfl) (by kernel_rfl) (fun _ _ _ h => h) (Or.inl ⟨by rfl, ?_⟩) hHeld ?_
  · (intro wS hSw; (try dsimp only at hSw); go_simp)
  simp only [Act.put, List.setIfInBounds_toArray, List.set_cons_zero, List.set_cons_succ]
  refine hTake (i := 23) (v := .agg #[.slice A0 m0 c0, .int .i64 r0]) 78 rfl rfl (by kernel_rfl) (by kernel_rfl) (by kernel_rfl) (fun _ _ _ h => h) (Or.inl ⟨by rfl, ?_⟩) hHeld ?_
  · (intro wS hSw; (try dsimp only at hSw); go_simp)
  simp only [Act.put, List.setIfInBounds_toArray, List.set_cons_zero, List.set_cons_succ]
  refine wpAnyH_ready (rs := [22]) (by kernel_rfl) (by simp) ?_
  refine AllReadyH.cons rfl (fun K hK => ?_) AllReadyH.nil
  go_simp
  go_at_call 22
  with_reducible refine ((TK.out _ HB.out).1).mono ?_
  rintro e wn22 ⟨rfl, b9⟩
  clear pX0 sX0 nX0 pX1 sX1 nX1 pXx sXx nXx pXy sXy nXy pXz sXz nXz pXu sXu nXu
  replace X0 := rb2 X0 b9
  replace X1 := rb2 X1 b9
  replace X2 := rb2 X2 b9
  replace Xx := rb2 Xx b9
  replace Xy := rb2 Xy b9
  replace Xz := rb2 Xz b9
  replace Xu := rb2 Xu b9
  replace Ra := rrd Ra b9
  replace Rb := rrd Rb b9
  replace Rc := rrd Rc b9
  replace Rj := rrd Rj b9
  replace HB := btr HB b9 HB.out.size
  obtain ⟨pX0, sX0, nX0⟩ := xb2 X0
  obtain ⟨pX1, sX1, nX1⟩ := xb2 X1
  obtain ⟨pXx, sXx, nXx⟩ := xb2 Xx
  obtain ⟨pXy, sXy, nXy⟩ := xb2 Xy
  obtain ⟨pXz, sXz, nXz⟩ := xb2 Xz
  obtain ⟨pXu, sXu, nXu⟩ := xb2 Xu
  clear b9
  go_wp2_with fail
  refine hK.out _ _ ?_ (fun hHeld => ?_)
  · (try dsimp only); first | (refine ⟨?_, ?_, ?_, ?_, ?_, ?_, ?_, ?_, ?_, ?_, ?_, ?_⟩ <;> (with_reducible assumption)) | go_keep
  clear hK K
  try simp only [Act.put, List.setIfInBounds_toArray, List.set_cons_zero, List.set_cons_succ]
  refine wpAnyH_ready (rs := [24]) (by kernel_rfl) (by simp) ?_
  refine AllReadyH.cons rfl (fun K hK => ?_) AllReadyH.nil
  go_simp
  go_at_call 23
  with_reducible refine ((TK.out _ HB.out).2).mono ?_
  rintro e wn24 ⟨rfl, b9⟩
  clear pX0 sX0 nX0 pX1 sX1 nX1 pXx sXx nXx pXy sXy nXy pXz sXz nXz pXu sXu nXu
  replace X0 := rb2 X0 b9
  replace X1 := rb2 X1 b9
  replace X2 := rb2 X2 b9
  replace Xx := rb2 Xx b9
  replace Xy := rb2 Xy b9
  replace Xz := rb2 Xz b9
  replace Xu := rb2 Xu b9
  replace Ra := rrd Ra b9
  replace Rb := rrd Rb b9
  replace Rc := rrd Rc b9
  replace Rj := rrd Rj b9
  replace HB := btr HB b9 HB.out.size
  obtain ⟨pX0, sX0, nX0⟩ := xb2 X0
  obtain ⟨pX1, sX1, nX1⟩ := xb2 X1
  obtain ⟨pXx, sXx, nXx⟩ := xb2 Xx
  obtain ⟨pXy, sXy, nXy⟩ := xb2 Xy
  obtain ⟨pXz, sXz, nXz⟩ := xb2 Xz
  obtain ⟨pXu, sXu, nXu⟩ := xb2 Xu
  clear b9
  go_wp2_with fail
  refine hK.out _ _ ?_ (fun hHeld => ?_)
  · (try dsimp only); first | (refine ⟨?_, ?_, ?_, ?_, ?_, ?_, ?_, ?_, ?_, ?_, ?_, ?_⟩ <;> (with_reducible assumption)) | go_keep
  clear hK K
  try simp only [Act.put, List.setIfInBounds_toArray, List.set_cons_zero, List.set_cons_succ]
  refine hTake (i := 25) (v := .bool false) 80 rfl rfl (by kernel_rfl) (by kernel_rfl) (by kernel_rfl) (fun _ _ _ h => h) (Or.inl ⟨by rfl, ?_⟩) hHeld ?_
  · (intro wS hSw; (try dsimp only at hSw); go_simp)
  simp only [Act.put, List.setIfInBounds_toArray, List.set_cons_zero, List.set_cons_succ]
  refine hTake (i := 26) (v := .bool false) 81 rfl rfl (by kernel_rfl) (by kernel_rfl) (by kernel_rfl) (fun _ _ _ h => h) (Or.inl ⟨by rfl, ?_⟩) hHeld ?_
  · (intro wS hSw; (try dsimp only at hSw); go_simp)
  simp only [Act.put, List.setIfInBounds_toArray, List.set_cons_zero, List.set_cons_succ]
  refine hTake (i := 27) (v := .bool false) 82 rfl rfl (by kernel_rfl) (by kernel_rfl) (by kernel_rfl) (fun _ _ _ h => h) (Or.inl ⟨by rfl, ?_⟩) hHeld ?_
  · (intro wS hSw; (try dsimp only at hSw); go_simp)
  simp only [Act.put, List.setIfInBounds_toArray, List.set_cons_zero, List.set_cons_succ]
  refine hTake (i := 28) (v := .agg #[.slice A0 m0 c0, .int .i64 r0]) 83 rfl rfl (by kernel_rfl) (by kernel_rfl) (by kernel_rfl) (fun _ _ _ h => h) (Or.inl ⟨by rfl, ?_⟩) hHeld ?_
  · (intro wS hSw; (try dsimp only at hSw); go_simp)
  simp only [Act.put, List.setIfInBounds_toArray, List.set_cons_zero, List.set_cons_succ]
  refine hTake (i := 29) (v := .agg #[.slice A1 m1 c1, .int .i64 r1]) 84 rfl rfl (by kernel_rfl) (by kernel_rfl) (by kernel_rfl) (fun _ _ _ h => h) (Or.inl ⟨by rfl, ?_⟩) hHeld ?_
  · (intro wS hSw; (try dsimp only at hSw); go_simp)
  simp only [Act.put, List.setIfInBounds_toArray, List.set_cons_zero, List.set_cons_succ]
  refine hTake (i := 31) (v := .agg #[.slice A0 m0 c0, .int .i64 r0]) 86 rfl rfl (by kernel_rfl) (by kernel_rfl) (by kernel_rfl) (fun _ _ _ h => h) (Or.inl ⟨by rfl, ?_⟩) hHeld ?_
  · (intro wS hSw; (try dsimp only at hSw); go_simp)
  simp only [Act.put, List.setIfInBounds_toArray, List.set_cons_zero, List.set_cons_succ]
  refine hTake (i := 32) (v := .agg #[.slice A1 m1 c1, .int .i64 r1]) 87 rfl rfl (by kernel_rfl) (by kernel_rfl) (by kernel_rfl) (fun _ _ _ h => h) (Or.inl ⟨by rfl, ?_⟩) hHeld ?_
  · (intro wS hSw; (try dsimp only at hSw); go_simp)
  simp only [Act.put, List.setIfInBounds_toArray, List.set_cons_zero, List.set_cons_succ]
  refine wpAnyH_ready (rs := [30]) (by kernel_rfl) (by simp) ?_
  refine AllReadyH.cons rfl (fun K hK => ?_) AllReadyH.nil
  go_simp
  go_at_call 24
  with_reducible refine ((TS.out _ HB.out).1).mono ?_
  rintro e wn30 ⟨rfl, b9⟩
  clear pX0 sX0 nX0 pX1 sX1 nX1 pXx sXx nXx pXy sXy nXy pXz sXz nXz pXu sXu nXu
  replace X0 := rb2 X0 b9
  replace X1 := rb2 X1 b9
  replace X2 := rb2 X2 b9
  replace Xx := rb2 Xx b9
  replace Xy := rb2 Xy b9
  replace Xz := rb2 Xz b9
  replace Xu := rb2 Xu b9
  replace Ra := rrd Ra b9
  replace Rb := rrd Rb b9
  replace Rc := rrd Rc b9
  replace Rj := rrd Rj b9
  replace HB := btr HB b9 HB.out.size
  obtain ⟨pX0, sX0, nX0⟩ := xb2 X0
  obtain ⟨pX1, sX1, nX1⟩ := xb2 X1
  obtain ⟨pXx, sXx, nXx⟩ := xb2 Xx
  obtain ⟨pXy, sXy, nXy⟩ := xb2 Xy
  obtain ⟨pXz, sXz, nXz⟩ := xb2 Xz
  obtain ⟨pXu, sXu, nXu⟩ := xb2 Xu
  clear b9
  go_wp2_with fail
  refine hK.out _ _ ?_ (fun hHeld => ?_)
  · (try dsimp only); first | (refine ⟨?_, ?_, ?_, ?_, ?_, ?_, ?_, ?_, ?_, ?_, ?_, ?_⟩ <;> (with_reducible assumption)) | go_keep
  clear hK K
  try simp only [Act.put, List.setIfInBounds_toArray, List.set_cons_zero, List.set_cons_succ]
  refine wpAnyH_ready (rs := [33]) (by kernel_rfl) (by simp) ?_
  refine AllReadyH.cons rfl (fun K hK => ?_) AllReadyH.nil
  go_simp
  go_at_call 21
  with_reducible refine ((TS.out _ HB.out).2).mono ?_
  rintro e wn33 ⟨rfl, b9⟩
  clear pX0 sX0 nX0 pX1 sX1 nX1 pXx sXx nXx pXy sXy nXy pXz sXz nXz pXu sXu nXu
  replace X0 := rb2 X0 b9
  replace X1 := rb2 X1 b9
  replace X2 := rb2 X2 b9
  replace Xx := rb2 Xx b9
  replace Xy := rb2 Xy b9
  replace Xz := rb2 Xz b9
  replace Xu := rb2 Xu b9
  replace Ra := rrd Ra b9
  replace Rb := rrd Rb b9
  replace Rc := rrd Rc b9
  replace Rj := rrd Rj b9
  replace HB := btr HB b9 HB.out.size
  obtain ⟨pX0, sX0, nX0⟩ := xb2 X0
  obtain ⟨pX1, sX1, nX1⟩ := xb2 X1
  obtain ⟨pXx, sXx, nXx⟩ := xb2 Xx
  obtain ⟨pXy, sXy, nXy⟩ := xb2 Xy
  obtain ⟨pXz, sXz, nXz⟩ := xb2 Xz
  obtain ⟨pXu, sXu, nXu⟩ := xb2 Xu
  clear b9
  go_wp2_with fail
  refine hK.out _ _ ?_ (fun hHeld => ?_)
  · (try dsimp only); first | (refine ⟨?_, ?_, ?_, ?_, ?_, ?_, ?_, ?_, ?_, ?_, ?_, ?_⟩ <;> (with_reducible assumption)) | go_keep
  clear hK K
  try simp only [Act.put, List.setIfInBounds_toArray, List.set_cons_zero, List.set_cons_succ]
  refine hTake (i := 34) (v := .bool false) 89 rfl rfl (by kernel_rfl) (by kernel_rfl) (by kernel_rfl) (fun _ _ _ h => h) (Or.inl ⟨by rfl, ?_⟩) hHeld ?_
  · (intro wS hSw; (try dsimp only at hSw); go_simp)
  simp only [Act.put, List.setIfInBounds_toArray, List.set_cons_zero, List.set_cons_succ]
  refine hTake (i := 35) (v := .bool false) 90 rfl rfl (by kernel_rfl) (by kernel_rfl) (by kernel_rfl) (fun _ _ _ h => h) (Or.inl ⟨by rfl, ?_⟩) hHeld ?_
  · (intro wS hSw; (try dsimp only at hSw); go_simp)
  simp only [Act.put, List.setIfInBounds_toArray, List.set_cons_zero, List.set_cons_succ]
  refine wpAnyH_done (by kernel_rfl) ?_ _
  clear pX0 sX0 nX0 pX1 sX1 nX1 pXx sXx nXx pXy sXy nXy pXz sXz nXz pXu sXu nXu
  clear Ra Rb Rc Rj La Lb Lc Lj
  have o1 := hltXx.out
  have o2 := hltXy.out
  have o3 := hltXz.out
  have o4 := hltXu.out
  have ngx0 : ¬ gx = w.heap.size := by omega
  have ngx1 : ¬ gx = w.heap.size + 1 := by omega
  have ngx2 : ¬ gx = w.heap.size + 1 + 1 := by omega
  have ngy0 : ¬ gy = w.heap.size := by omega
  have ngy1 : ¬ gy = w.heap.size + 1 := by omega
  have ngy2 : ¬ gy = w.heap.size + 1 + 1 := by omega
  have ngz0 : ¬ gz = w.heap.size := by omega
  have ngz1 : ¬ gz = w.heap.size + 1 := by omega
  have ngz2 : ¬ gz = w.heap.size + 1 + 1 := by omega
  have ngu0 : ¬ gu = w.heap.size := by omega
  have ngu1 : ¬ gu = w.heap.size + 1 := by omega
  have ngu2 : ¬ gu = w.heap.size + 1 + 1 := by omega
  have nux : ¬ gu = gx := by omega
  have nuy : ¬ gu = gy := by omega
  have OR : Hid (w.heap.size + 1 + 1 < gx ∧ gx < gy ∧ gy < gz ∧ gz < gu) := Lib.hid ⟨o1, o2, o3, o4⟩
  clear o1 o2 o3 o4 hltXx hltXy hltXz hltXu
  obtain ⟨pX0, sX0, nX0⟩ := xb2 X0
  obtain ⟨pX1, sX1, nX1⟩ := xb2 X1
  go_wp2_with fail
  clear pX0 sX0 nX0 pX1 sX1 nX1
  have hgup := Lib.hid (Xu.out.lt (by omega))
  with_reducible refine ((TX.out _ HB.out).1).mono ?_
  rintro e up ⟨⟨Ap, mp, cp, rfl, ep, rp, fp⟩, b5⟩
  replace X0 := rb2 X0 b5
  replace X1 := rb2 X1 b5
  replace X2 := rb2 X2 b5
  replace Xx := rb2 Xx b5
  replace Xy := rb2 Xy b5
  replace Xz := rb2 Xz b5
  replace Xu := rb2 Xu b5
  replace HB := btr HB b5 HB.out.size
  clear b5
  have Rp : Hid (RdF up Ap Mx) := Lib.hid rp
  have Lp := Lib.hid ep
  have Fp : Hid (Fr Ap (gu + 1)) := Lib.hid (fp.mono hgup.out)
  clear ep rp fp hgup
  obtain ⟨y0, y0f⟩ := Xx.out 0 (by omega)
  obtain ⟨y1, y1f⟩ := Xx.out 1 (by omega)
  obtain ⟨pX0, sX0, nX0⟩ := xb2 X0
  obtain ⟨pX1, sX1, nX1⟩ := xb2 X1
  go_wp2_with fail
  clear pX0 sX0 nX0 pX1 sX1 nX1
  clear y0 y0f y1 y1f
  replace X0 := bx_other X0 (g := gx) (by have := OR.out; omega) (.slice Ap mp cp) (.int .i64 (nx : Int))
  replace X1 := bx_other X1 (g := gx) (by have := OR.out; omega) (.slice Ap mp cp) (.int .i64 (nx : Int))
  replace X2 := bx_other X2 (g := gx) (by have := OR.out; omega) (.slice Ap mp cp) (.int .i64 (nx : Int))
  replace Xx := bx_set Xx (.slice Ap mp cp) (.int .i64 (nx : Int))
  replace Xy := bx_other Xy (g := gx) (by have := OR.out; omega) (.slice Ap mp cp) (.int .i64 (nx : Int))
  replace Xz := bx_other Xz (g := gx) (by have := OR.out; omega) (.slice Ap mp cp) (.int .i64 (nx : Int))
  replace Xu := bx_other Xu (g := gx) (by have := OR.out; omega) (.slice Ap mp cp) (.int .i64 (nx : Int))
  replace Rp := rrs Rp (g := gx) (Lib.hid (Fp.out.mono (by have := OR.out; omega))) (.slice Ap mp cp) (.int .i64 (nx : Int))
  replace HB : Hid (Below w.heap.size w ((up.setCell ⟨gx, 0, none⟩ (.slice Ap mp cp)).setCell ⟨gx, 1, none⟩ (.int .i64 (nx : Int)))) := Lib.hid ((HB.out.setCell (by show w.heap.size ≤ gx; have := OR.out; omega) _).setCell (by show w.heap.size ≤ gx; have := OR.out; omega) _)
  generalize ((up.setCell ⟨gx, 0, none⟩ (.slice Ap mp cp)).setCell ⟨gx, 1, none⟩ (.int .i64 (nx : Int))) = kp at *
  have hguq := Lib.hid (Xu.out.lt (by omega))
  with_reducible refine ((TX.out _ HB.out).2).mono ?_
  rintro e uq ⟨⟨Aq, mq, cq, rfl, eq, rq, fq⟩, b5⟩
  replace X0 := rb2 X0 b5
  replace X1 := rb2 X1 b5
  replace X2 := rb2 X2 b5
  replace Xx := rb2 Xx b5
  replace Xy := rb2 Xy b5
  replace Xz := rb2 Xz b5
  replace Xu := rb2 Xu b5
  replace Rp := rrd Rp b5
  replace HB := btr HB b5 HB.out.size
  clear b5
  have Rq : Hid (RdF uq Aq Mx) := Lib.hid rq
  have Lq := Lib.hid eq
  have Fq : Hid (Fr Aq (gu + 1)) := Lib.hid (fq.mono hguq.out)
  clear eq rq fq hguq
  obtain ⟨y0, y0f⟩ := Xy.out 0 (by omega)
  obtain ⟨y1, y1f⟩ := Xy.out 1 (by omega)
  obtain ⟨pX0, sX0, nX0⟩ := xb2 X0
  obtain ⟨pX1, sX1, nX1⟩ := xb2 X1
  obtain ⟨pX2, sX2, nX2⟩ := xb2 X2
  go_wp2_with fail
  clear pX0 sX0 nX0 pX1 sX1 nX1 pX2 sX2 nX2
  clear y0 y0f y1 y1f
  replace X0 := bx_other X0 (g := gy) (by have := OR.out; omega) (.slice Aq mq cq) (.int .i64 (nx : Int))
  replace X1 := bx_other X1 (g := gy) (by have := OR.out; omega) (.slice Aq mq cq) (.int .i64 (nx : Int))
  replace X2 := bx_other X2 (g := gy) (by have := OR.out; omega) (.slice Aq mq cq) (.int .i64 (nx : Int))
  replace Xx := bx_other Xx (g := gy) (by have := OR.out; omega) (.slice Aq mq cq) (.int .i64 (nx : Int))
  replace Xy := bx_set Xy (.slice Aq mq cq) (.int .i64 (nx : Int))
  replace Xz := bx_other Xz (g := gy) (by have := OR.out; omega) (.slice Aq mq cq) (.int .i64 (nx : Int))
  replace Xu := bx_other Xu (g := gy) (by have := OR.out; omega) (.slice Aq mq cq) (.int .i64 (nx : Int))
  replace Rp := rrs Rp (g := gy) (Lib.hid (Fp.out.mono (by have := OR.out; omega))) (.slice Aq mq cq) (.int .i64 (nx : Int))
  replace Rq := rrs Rq (g := gy) (Lib.hid (Fq.out.mono (by have := OR.out; omega))) (.slice Aq mq cq) (.int .i64 (nx : Int))
  replace HB : Hid (Below w.heap.size w ((uq.setCell ⟨gy, 0, none⟩ (.slice Aq mq cq)).setCell ⟨gy, 1, none⟩ (.int .i64 (nx : Int)))) := Lib.hid ((HB.out.setCell (by show w.heap.size ≤ gy; have := OR.out; omega) _).setCell (by show w.heap.size ≤ gy; have := OR.out; omega) _)
  generalize ((uq.setCell ⟨gy, 0, none⟩ (.slice Aq mq cq)).setCell ⟨gy, 1, none⟩ (.int .i64 (nx : Int))) = kq at *
  have hgui := Lib.hid (Xu.out.lt (by omega))
  with_reducible refine ((TC.out _ HB.out).1).mono ?_
  rintro e ui ⟨⟨Ai, mi, ci, rfl, ei, ri, fi⟩, b5⟩
  replace X0 := rb2 X0 b5
  replace X1 := rb2 X1 b5
  replace X2 := rb2 X2 b5
  replace Xx := rb2 Xx b5
  replace Xy := rb2 Xy b5
  replace Xz := rb2 Xz b5
  replace Xu := rb2 Xu b5
  replace Rp := rrd Rp b5
  replace Rq := rrd Rq b5
  replace HB := btr HB b5 HB.out.size
  clear b5
  have Ri : Hid (RdF ui Ai Mc) := Lib.hid ri
  have Li := Lib.hid ei
  have Fi : Hid (Fr Ai (gu + 1)) := Lib.hid (fi.mono hgui.out)
  clear ei ri fi hgui
  obtain ⟨y0, y0f⟩ := Xz.out 0 (by omega)
  obtain ⟨y1, y1f⟩ := Xz.out 1 (by omega)
  obtain ⟨pX0, sX0, nX0⟩ := xb2 X0
  obtain ⟨pX1, sX1, nX1⟩ := xb2 X1
  obtain ⟨pX2, sX2, nX2⟩ := xb2 X2
  go_wp2_with fail
  clear pX0 sX0 nX0 pX1 sX1 nX1 pX2 sX2 nX2
  clear y0 y0f y1 y1f
  replace X0 := bx_other X0 (g := gz) (by have := OR.out; omega) (.slice Ai mi ci) (.int .i64 (nc : Int))
  replace X1 := bx_other X1 (g := gz) (by have := OR.out; omega) (.slice Ai mi ci) (.int .i64 (nc : Int))
  replace X2 := bx_other X2 (g := gz) (by have := OR.out; omega) (.slice Ai mi ci) (.int .i64 (nc : Int))
  replace Xx := bx_other Xx (g := gz) (by have := OR.out; omega) (.slice Ai mi ci) (.int .i64 (nc : Int))
  replace Xy := bx_other Xy (g := gz) (by have := OR.out; omega) (.slice Ai mi ci) (.int .i64 (nc : Int))
  replace Xz := bx_set Xz (.slice Ai mi ci) (.int .i64 (nc : Int))
  replace Xu := bx_other Xu (g := gz) (by have := OR.out; omega) (.slice Ai mi ci) (.int .i64 (nc : Int))
  replace Rp := rrs Rp (g := gz) (Lib.hid (Fp.out.mono (by have := OR.out; omega))) (.slice Ai mi ci) (.int .i64 (nc : Int))
  replace Rq := rrs Rq (g := gz) (Lib.hid (Fq.out.mono (by have := OR.out; omega))) (.slice Ai mi ci) (.int .i64 (nc : Int))
  replace Ri := rrs Ri (g := gz) (Lib.hid (Fi.out.mono (by have := OR.out; omega))) (.slice Ai mi ci) (.int .i64 (nc : Int))
  replace HB : Hid (Below w.heap.size w ((ui.setCell ⟨gz, 0, none⟩ (.slice Ai mi ci)).setCell ⟨gz, 1, none⟩ (.int .i64 (nc : Int)))) := Lib.hid ((HB.out.setCell (by show w.heap.size ≤ gz; have := OR.out; omega) _).setCell (by show w.heap.size ≤ gz; have := OR.out; omega) _)
  generalize ((ui.setCell ⟨gz, 0, none⟩ (.slice Ai mi ci)).setCell ⟨gz, 1, none⟩ (.int .i64 (nc : Int))) = ki at *
  have hgus := Lib.hid (Xu.out.lt (by omega))
  with_reducible refine ((TC.out _ HB.out).2).mono ?_
  rintro e us ⟨⟨As, ms, cs, rfl, es, rs, fs⟩, b5⟩
  replace X0 := rb2 X0 b5
  replace X1 := rb2 X1 b5
  replace X2 := rb2 X2 b5
  replace Xx := rb2 Xx b5
  replace Xy := rb2 Xy b5
  replace Xz := rb2 Xz b5
  replace Xu := rb2 Xu b5
  replace Rp := rrd Rp b5
  replace Rq := rrd Rq b5
  replace Ri := rrd Ri b5
  replace HB := btr HB b5 HB.out.size
  clear b5
  have Rs : Hid (RdF us As Mc) := Lib.hid rs
  have Ls := Lib.hid es
  have Fs : Hid (Fr As (gu + 1)) := Lib.hid (fs.mono hgus.out)
  clear es rs fs hgus
  obtain ⟨y0, y0f⟩ := Xu.out 0 (by omega)
  obtain ⟨y1, y1f⟩ := Xu.out 1 (by omega)
  obtain ⟨pXx, sXx, nXx⟩ := xb2 Xx
  obtain ⟨pXy, sXy, nXy⟩ := xb2 Xy
  go_wp2_with fail
  clear pXx sXx nXx pXy sXy nXy
  clear y0 y0f y1 y1f
  replace X0 := bx_other X0 (g := gu) (by have := OR.out; omega) (.slice As ms cs) (.int .i64 (nc : Int))
  replace X1 := bx_other X1 (g := gu) (by have := OR.out; omega) (.slice As ms cs) (.int .i64 (nc : Int))
  replace X2 := bx_other X2 (g := gu) (by have := OR.out; omega) (.slice As ms cs) (.int .i64 (nc : Int))
  replace Xx := bx_other Xx (g := gu) (by have := OR.out; omega) (.slice As ms cs) (.int .i64 (nc : Int))
  replace Xy := bx_other Xy (g := gu) (by have := OR.out; omega) (.slice As ms cs) (.int .i64 (nc : Int))
  replace Xz := bx_other Xz (g := gu) (by have := OR.out; omega) (.slice As ms cs) (.int .i64 (nc : Int))
  replace Xu := bx_set Xu (.slice As ms cs) (.int .i64 (nc : Int))
  replace Rp := rrs Rp (g := gu) (Lib.hid (Fp.out.mono (by have := OR.out; omega))) (.slice As ms cs) (.int .i64 (nc : Int))
  replace Rq := rrs Rq (g := gu) (Lib.hid (Fq.out.mono (by have := OR.out; omega))) (.slice As ms cs) (.int .i64 (nc : Int))
  replace Ri := rrs Ri (g := gu) (Lib.hid (Fi.out.mono (by have := OR.out; omega))) (.slice As ms cs) (.int .i64 (nc : Int))
  replace Rs := rrs Rs (g := gu) (Lib.hid (Fs.out.mono (by have := OR.out; omega))) (.slice As ms cs) (.int .i64 (nc : Int))
  replace HB : Hid (Below w.heap.size w ((us.setCell ⟨gu, 0, none⟩ (.slice As ms cs)).setCell ⟨gu, 1, none⟩ (.int .i64 (nc : Int)))) := Lib.hid ((HB.out.setCell (by show w.heap.size ≤ gu; have := OR.out; omega) _).setCell (by show w.heap.size ≤ gu; have := OR.out; omega) _)
  generalize ((us.setCell ⟨gu, 0, none⟩ (.slice As ms cs)).setCell ⟨gu, 1, none⟩ (.int .i64 (nc : Int))) = ks at *
  with_reducible refine (same_ok Rp Rq Lp Lq LX).mono ?_
  rintro e s1 ⟨rfl, b5⟩
  replace X0 := rb2 X0 b5
  replace X1 := rb2 X1 b5
  replace X2 := rb2 X2 b5
  replace Xx := rb2 Xx b5
  replace Xy := rb2 Xy b5
  replace Xz := rb2 Xz b5
  replace Xu := rb2 Xu b5
  replace Rp := rrd Rp b5
  replace Rq := rrd Rq b5
  replace Ri := rrd Ri b5
  replace Rs := rrd Rs b5
  replace HB := btr HB b5 HB.out.size
  clear b5
  obtain ⟨pXz, sXz, nXz⟩ := xb2 Xz
  obtain ⟨pXu, sXu, nXu⟩ := xb2 Xu
  go_wp2_with fail
  clear pXz sXz nXz pXu sXu nXu
  with_reducible refine (same_ok Ri Rs Li Ls LC).mono ?_
  rintro e s2 ⟨rfl, b5⟩
  replace X0 := rb2 X0 b5
  replace X1 := rb2 X1 b5
  replace X2 := rb2 X2 b5
  replace Xx := rb2 Xx b5
  replace Xy := rb2 Xy b5
  replace Xz := rb2 Xz b5
  replace Xu := rb2 Xu b5
  replace Rp := rrd Rp b5
  replace Rq := rrd Rq b5
  replace Ri := rrd Ri b5
  replace Rs := rrd Rs b5
  replace HB := btr HB b5 HB.out.size
  clear b5
  obtain ⟨pX0, sX0, nX0⟩ := xb2 X0
  go_wp2_with fail
  clear pX0 sX0 nX0
  clear Rp Rq Ri Rs Lp Lq Li Ls Fp Fq Fi Fs
  have hgut := Lib.hid (Xu.out.lt (by omega))
  with_reducible refine ((TN.out _ HB.out).1).mono ?_
  rintro e ut ⟨⟨At, mt, ct, rfl, et, rt, ft⟩, b5⟩
  replace X0 := rb2 X0 b5
  replace X1 := rb2 X1 b5
  replace X2 := rb2 X2 b5
  replace Xx := rb2 Xx b5
  replace Xy := rb2 Xy b5
  replace Xz := rb2 Xz b5
  replace Xu := rb2 Xu b5
  replace HB := btr HB b5 HB.out.size
  clear b5
  have Rt : Hid (RdF ut At Mn) := Lib.hid rt
  have Lt := Lib.hid et
  have Ft : Hid (Fr At (gu + 1)) := Lib.hid (ft.mono hgut.out)
  clear et rt ft hgut
  obtain ⟨y0, y0f⟩ := Xx.out 0 (by omega)
  obtain ⟨y1, y1f⟩ := Xx.out 1 (by omega)
  obtain ⟨pX0, sX0, nX0⟩ := xb2 X0
  go_wp2_with fail
  clear pX0 sX0 nX0
  clear y0 y0f y1 y1f
  replace X0 := bx_other X0 (g := gx) (by have := OR.out; omega) (.slice At mt ct) (.int .i64 (nn : Int))
  replace X1 := bx_other X1 (g := gx) (by have := OR.out; omega) (.slice At mt ct) (.int .i64 (nn : Int))
  replace X2 := bx_other X2 (g := gx) (by have := OR.out; omega) (.slice At mt ct) (.int .i64 (nn : Int))
  replace Xx := bx_set Xx (.slice At mt ct) (.int .i64 (nn : Int))
  replace Xy := bx_other Xy (g := gx) (by have := OR.out; omega) (.slice At mt ct) (.int .i64 (nn : Int))
  replace Xz := bx_other Xz (g := gx) (by have := OR.out; omega) (.slice At mt ct) (.int .i64 (nn : Int))
  replace Xu := bx_other Xu (g := gx) (by have := OR.out; omega) (.slice At mt ct) (.int .i64 (nn : Int))
  replace Rt := rrs Rt (g := gx) (Lib.hid (Ft.out.mono (by have := OR.out; omega))) (.slice At mt ct) (.int .i64 (nn : Int))
  replace HB : Hid (Below w.heap.size w ((ut.setCell ⟨gx, 0, none⟩ (.slice At mt ct)).setCell ⟨gx, 1, none⟩ (.int .i64 (nn : Int)))) := Lib.hid ((HB.out.setCell (by show w.heap.size ≤ gx; have := OR.out; omega) _).setCell (by show w.heap.size ≤ gx; have := OR.out; omega) _)
  generalize ((ut.setCell ⟨gx, 0, none⟩ (.slice At mt ct)).setCell ⟨gx, 1, none⟩ (.int .i64 (nn : Int))) = kt at *
  have hguv := Lib.hid (Xu.out.lt (by omega))
  with_reducible refine ((TN.out _ HB.out).2).mono ?_
  rintro e uv ⟨⟨Av, mv, cv, rfl, ev, rv, fv⟩, b5⟩
  replace X0 := rb2 X0 b5
  replace X1 := rb2 X1 b5
  replace X2 := rb2 X2 b5
  replace Xx := rb2 Xx b5
  replace Xy := rb2 Xy b5
  replace Xz := rb2 Xz b5
  replace Xu := rb2 Xu b5
  replace Rt := rrd Rt b5
  replace HB := btr HB b5 HB.out.size
  clear b5
  have Rv : Hid (RdF uv Av Mn) := Lib.hid rv
  have Lv := Lib.hid ev
  have Fv : Hid (Fr Av (gu + 1)) := Lib.hid (fv.mono hguv.out)
  clear ev rv fv hguv
  obtain ⟨y0, y0f⟩ := Xy.out 0 (by omega)
  obtain ⟨y1, y1f⟩ := Xy.out 1 (by omega)
  obtain ⟨pX0, sX0, nX0⟩ := xb2 X0
  go_upto_region 18 with fail
  clear pX0 sX0 nX0
  clear y0 y0f y1 y1f
  replace X0 := bx_other X0 (g := gy) (by have := OR.out; omega) (.slice Av mv cv) (.int .i64 (nn : Int))
  replace X1 := bx_other X1 (g := gy) (by have := OR.out; omega) (.slice Av mv cv) (.int .i64 (nn : Int))
  replace X2 := bx_other X2 (g := gy) (by have := OR.out; omega) (.slice Av mv cv) (.int .i64 (nn : Int))
  replace Xx := bx_other Xx (g := gy) (by have := OR.out; omega) (.slice Av mv cv) (.int .i64 (nn : Int))
  replace Xy := bx_set Xy (.slice Av mv cv) (.int .i64 (nn : Int))
  replace Xz := bx_other Xz (g := gy) (by have := OR.out; omega) (.slice Av mv cv) (.int .i64 (nn : Int))
  replace Xu := bx_other Xu (g := gy) (by have := OR.out; omega) (.slice Av mv cv) (.int .i64 (nn : Int))
  replace Rt := rrs Rt (g := gy) (Lib.hid (Ft.out.mono (by have := OR.out; omega))) (.slice Av mv cv) (.int .i64 (nn : Int))
  replace Rv := rrs Rv (g := gy) (Lib.hid (Fv.out.mono (by have := OR.out; omega))) (.slice Av mv cv) (.int .i64 (nn : Int))
  replace HB : Hid (Below w.heap.size w ((uv.setCell ⟨gy, 0, none⟩ (.slice Av mv cv)).setCell ⟨gy, 1, none⟩ (.int .i64 (nn : Int)))) := Lib.hid ((HB.out.setCell (by show w.heap.size ≤ gy; have := OR.out; omega) _).setCell (by show w.heap.size ≤ gy; have := OR.out; omega) _)
  generalize ((uv.setCell ⟨gy, 0, none⟩ (.slice Av mv cv)).setCell ⟨gy, 1, none⟩ (.int .i64 (nn : Int))) = kv at *
  have dr := (Below.refl kv.heap.size kv).drew
  replace X0 := rb2 X0 dr
  replace X1 := rb2 X1 dr
  replace X2 := rb2 X2 dr
  replace Xx := rb2 Xx dr
  replace Xy := rb2 Xy dr
  replace Xz := rb2 Xz dr
  replace Xu := rb2 Xu dr
  replace Rt := rrd Rt dr
  replace Rv := rrd Rv dr
  replace HB := btr HB dr HB.out.size
  clear dr
  obtain ⟨pX0, sX0, nX0⟩ := xb2 X0
  obtain ⟨pX1, sX1, nX1⟩ := xb2 X1
  obtain ⟨pXx, sXx, nXx⟩ := xb2 Xx
  obtain ⟨pXy, sXy, nXy⟩ := xb2 Xy
  refine wp_region_held_drew (S := (fun w' => w'.cell? ⟨w.heap.size, 0, none⟩ = some (.slice A0 m0 c0) ∧ w'.cell? ⟨w.heap.size, 1, none⟩ = some (.int .i64 r0) ∧ w'.cell? ⟨w.heap.size + 1, 0, none⟩ = some (.slice A1 m1 c1) ∧ w'.cell? ⟨w.heap.size + 1, 1, none⟩ = some (.int .i64 r1) ∧ w'.cell? ⟨gx, 0, none⟩ = some (.slice At mt ct) ∧ w'.cell? ⟨gx, 1, none⟩ = some (.int .i64 (nn : Int)) ∧ w'.cell? ⟨gy, 0, none⟩ = some (.slice Av mv cv) ∧ w'.cell? ⟨gy, 1, none⟩ = some (.int .i64 (nn : Int)))) (by kernel_rfl) ?_ (fun hHeld => ?_)
  · (try dsimp only); first | (refine ⟨?_, ?_, ?_, ?_, ?_, ?_, ?_, ?_⟩ <;> (with_reducible assumption)) | go_keep
  refine hTake (i := 0) (v := .agg #[.slice At mt ct, .int .i64 (nn : Int)]) 147 rfl rfl (by kernel_rfl) (by kernel_rfl) (by kernel_rfl) (fun _ _ _ h => h) (Or.inl ⟨by rfl, ?_⟩) hHeld ?_
  · (intro wS hSw; (try dsimp only at hSw); go_simp)
  simp only [Act.put, List.setIfInBounds_toArray, List.set_cons_zero, List.set_cons_succ]
  refine hTake (i := 1) (v := .agg #[.slice Av mv cv, .int .i64 (nn : Int)]) 148 rfl rfl (by kernel_rfl) (by kernel_rfl) (by kernel_rfl) (fun _ _ _ h => h) (Or.inl ⟨by rfl, ?_⟩) hHeld ?_
  · (intro wS hSw; (try dsimp only at hSw); go_simp)
  simp only [Act.put, List.setIfInBounds_toArray, List.set_cons_zero, List.set_cons_succ]
  refine wpAnyH_ready (rs := [2]) (by kernel_rfl) (by simp) ?_
  refine AllReadyH.cons rfl (fun K hK => ?_) AllReadyH.nil
  go_simp
  go_at_call 21
  with_reducible refine (same_ok Rt Rv Lt Lv LN).mono ?_
  rintro e wn2 ⟨rfl, b9⟩
  clear pX0 sX0 nX0 pX1 sX1 nX1 pXx sXx nXx pXy sXy nXy
  replace X0 := rb2 X0 b9
  replace X1 := rb2 X1 b9
  replace X2 := rb2 X2 b9
  replace Xx := rb2 Xx b9
  replace Xy := rb2 Xy b9
  replace Xz := rb2 Xz b9
  replace Xu := rb2 Xu b9
  replace Rt := rrd Rt b9
  replace Rv := rrd Rv b9
  replace HB := btr HB b9 HB.out.size
  obtain ⟨pX0, sX0, nX0⟩ := xb2 X0
  obtain ⟨pX1, sX1, nX1⟩ := xb2 X1
  obtain ⟨pXx, sXx, nXx⟩ := xb2 Xx
  obtain ⟨pXy, sXy, nXy⟩ := xb2 Xy
  clear b9
  go_wp2_with fail
  refine hK.out _ _ ?_ (fun hHeld => ?_)
  · (try dsimp only); first | (refine ⟨?_, ?_, ?_, ?_, ?_, ?_, ?_, ?_⟩ <;> (with_reducible assumption)) | go_keep
  clear hK K
  try simp only [Act.put, List.setIfInBounds_toArray, List.set_cons_zero, List.set_cons_succ]
  refine hTake (i := 3) (v := .bool true) 150 rfl rfl (by kernel_rfl) (by kernel_rfl) (by kernel_rfl) (fun _ _ _ h => h) (Or.inl ⟨by rfl, ?_⟩) hHeld ?_
  · (intro wS hSw; (try dsimp only at hSw); go_simp)
  simp only [Act.put, List.setIfInBounds_toArray, List.set_cons_zero, List.set_cons_succ]
  refine hTake (i := 4) (v := .int .i64 zn) 151 rfl rfl (by kernel_rfl) (by kernel_rfl) (by kernel_rfl) (fun _ _ _ h => h) (Or.inl ⟨by rfl, ?_⟩) hHeld ?_
  · (intro wS hSw; (try dsimp only at hSw); go_simp)
  simp only [Act.put, List.setIfInBounds_toArray, List.set_cons_zero, List.set_cons_succ]
  refine hTake (i := 5) (v := .int .i64 zn) 152 rfl rfl (by kernel_rfl) (by kernel_rfl) (by kernel_rfl) (fun _ _ _ h => h) (Or.inl ⟨by rfl, ?_⟩) hHeld ?_
  · (intro wS hSw; (try dsimp only at hSw); go_simp)
  simp only [Act.put, List.setIfInBounds_toArray, List.set_cons_zero, List.set_cons_succ]
  refine hTake (i := 6) (v := .bool true) 153 rfl rfl (by kernel_rfl) (by kernel_rfl) (by kernel_rfl) (fun _ _ _ h => h) (Or.inl ⟨by rfl, ?_⟩) hHeld ?_
  · (intro wS hSw; (try dsimp only at hSw); go_simp)
  simp only [Act.put, List.setIfInBounds_toArray, List.set_cons_zero, List.set_cons_succ]
  refine hTake (i := 7) (v := .bool true) 154 rfl rfl (by kernel_rfl) (by kernel_rfl) (by kernel_rfl) (fun _ _ _ h => h) (Or.inl ⟨by rfl, ?_⟩) hHeld ?_
  · (intro wS hSw; (try dsimp only at hSw); go_simp)
  simp only [Act.put, List.setIfInBounds_toArray, List.set_cons_zero, List.set_cons_succ]
  refine hTake (i := 8) (v := .bool true) 155 rfl rfl (by kernel_rfl) (by kernel_rfl) (by kernel_rfl) (fun _ _ _ h => h) (Or.inl ⟨by rfl, ?_⟩) hHeld ?_
  · (intro wS hSw; (try dsimp only at hSw); go_simp)
  simp only [Act.put, List.setIfInBounds_toArray, List.set_cons_zero, List.set_cons_succ]
  refine hTake (i := 9) (v := .agg #[.slice A0 m0 c0, .int .i64 r0]) 156 rfl rfl (by kernel_rfl) (by kernel_rfl) (by kernel_rfl) (fun _ _ _ h => h) (Or.inl ⟨by rfl, ?_⟩) hHeld ?_
  · (intro wS hSw; (try dsimp only at hSw); go_simp)
  simp only [Act.put, List.setIfInBounds_toArray, List.set_cons_zero, List.set_cons_succ]
  refine hTake (i := 10) (v := .agg #[.slice A1 m1 c1, .int .i64 r1]) 157 rfl rfl (by kernel_rfl) (by kernel_rfl) (by kernel_rfl) (fun _ _ _ h => h) (Or.inl ⟨by rfl, ?_⟩) hHeld ?_
  · (intro wS hSw; (try dsimp only at hSw); go_simp)
  simp only [Act.put, List.setIfInBounds_toArray, List.set_cons_zero, List.set_cons_succ]
  refine hTake (i := 12) (v := .agg #[.slice A0 m0 c0, .int .i64 r0]) 159 rfl rfl (by kernel_rfl) (by kernel_rfl) (by kernel_rfl) (fun _ _ _ h => h) (Or.inl ⟨by rfl, ?_⟩) hHeld ?_
  · (intro wS hSw; (try dsimp only at hSw); go_simp)
  simp only [Act.put, List.setIfInBounds_toArray, List.set_cons_zero, List.set_cons_succ]
  refine hTake (i := 13) (v := .agg #[.slice A1 m1 c1, .int .i64 r1]) 160 rfl rfl (by kernel_rfl) (by kernel_rfl) (by kernel_rfl) (fun _ _ _ h => h) (Or.inl ⟨by rfl, ?_⟩) hHeld ?_
  · (intro wS hSw; (try dsimp only at hSw); go_simp)
  simp only [Act.put, List.setIfInBounds_toArray, List.set_cons_zero, List.set_cons_succ]
  refine wpAnyH_ready (rs := [11]) (by kernel_rfl) (by simp) ?_
  refine AllReadyH.cons rfl (fun K hK => ?_) AllReadyH.nil
  go_simp
  go_at_call 31
  with_reducible refine ((TW.out _ HB.out).1).mono ?_
  rintro e wn11 ⟨rfl, b9⟩
  clear pX0 sX0 nX0 pX1 sX1 nX1 pXx sXx nXx pXy sXy nXy
  replace X0 := rb2 X0 b9
  replace X1 := rb2 X1 b9
  replace X2 := rb2 X2 b9
  replace Xx := rb2 Xx b9
  replace Xy := rb2 Xy b9
  replace Xz := rb2 Xz b9
  replace Xu := rb2 Xu b9
  replace Rt := rrd Rt b9
  replace Rv := rrd Rv b9
  replace HB := btr HB b9 HB.out.size
  obtain ⟨pX0, sX0, nX0⟩ := xb2 X0
  obtain ⟨pX1, sX1, nX1⟩ := xb2 X1
  obtain ⟨pXx, sXx, nXx⟩ := xb2 Xx
  obtain ⟨pXy, sXy, nXy⟩ := xb2 Xy
  clear b9
  go_wp2_with fail
  refine hK.out _ _ ?_ (fun hHeld => ?_)
  · (try dsimp only); first | (refine ⟨?_, ?_, ?_, ?_, ?_, ?_, ?_, ?_⟩ <;> (with_reducible assumption)) | go_keep
  clear hK K
  try simp only [Act.put, List.setIfInBounds_toArray, List.set_cons_zero, List.set_cons_succ]
  refine wpAnyH_ready (rs := [14]) (by kernel_rfl) (by simp) ?_
  refine AllReadyH.cons rfl (fun K hK => ?_) AllReadyH.nil
  go_simp
  go_at_call 32
  with_reducible refine ((TW.out _ HB.out).2).mono ?_
  rintro e wn14 ⟨rfl, b9⟩
  clear pX0 sX0 nX0 pX1 sX1 nX1 pXx sXx nXx pXy sXy nXy
  replace X0 := rb2 X0 b9
  replace X1 := rb2 X1 b9
  replace X2 := rb2 X2 b9
  replace Xx := rb2 Xx b9
  replace Xy := rb2 Xy b9
  replace Xz := rb2 Xz b9
  replace Xu := rb2 Xu b9
  replace Rt := rrd Rt b9
  replace Rv := rrd Rv b9
  replace HB := btr HB b9 HB.out.size
  obtain ⟨pX0, sX0, nX0⟩ := xb2 X0
  obtain ⟨pX1, sX1, nX1⟩ := xb2 X1
  obtain ⟨pXx, sXx, nXx⟩ := xb2 Xx
  obtain ⟨pXy, sXy, nXy⟩ := xb2 Xy
  clear b9
  go_wp2_with fail
  refine hK.out _ _ ?_ (fun hHeld => ?_)
  · (try dsimp only); first | (refine ⟨?_, ?_, ?_, ?_, ?_, ?_, ?_, ?_⟩ <;> (with_reducible assumption)) | go_keep
  clear hK K
  try simp only [Act.put, List.setIfInBounds_toArray, List.set_cons_zero, List.set_cons_succ]
  refine hTake (i := 15) (v := .bool true) 162 rfl rfl (by kernel_rfl) (by kernel_rfl) (by kernel_rfl) (fun _ _ _ h => h) (Or.inl ⟨by rfl, ?_⟩) hHeld ?_
  · (intro wS hSw; (try dsimp only at hSw); go_simp)
  simp only [Act.put, List.setIfInBounds_toArray, List.set_cons_zero, List.set_cons_succ]
  refine hTake (i := 16) (v := .bool true) 163 rfl rfl (by kernel_rfl) (by kernel_rfl) (by kernel_rfl) (fun _ _ _ h => h) (Or.inl ⟨by rfl, ?_⟩) hHeld ?_
  · (intro wS hSw; (try dsimp only at hSw); go_simp)
  simp only [Act.put, List.setIfInBounds_toArray, List.set_cons_zero, List.set_cons_succ]
  refine hTake (i := 17) (v := .bool true) 164 rfl rfl (by kernel_rfl) (by kernel_rfl) (by kernel_rfl) (fun _ _ _ h => h) (Or.inl ⟨by rfl, ?_⟩) hHeld ?_
  · (intro wS hSw; (try dsimp only at hSw); go_simp)
  simp only [Act.put, List.setIfInBounds_toArray, List.set_cons_zero, List.set_cons_succ]
  refine hTake (i := 18) (v := .agg #[.slice A0 m0 c0, .int .i64 r0]) 165 rfl rfl (by kernel_rfl) (by kernel_rfl) (by kernel_rfl) (fun _ _ _ h => h) (Or.inl ⟨by rfl, ?_⟩) hHeld ?_
  · (intro wS hSw; (try dsimp only at hSw); go_simp)
  simp only [Act.put, List.setIfInBounds_toArray, List.set_cons_zero, List.set_cons_succ]
  refine hTake (i := 19) (v := .agg #[.slice A1 m1 c1, .int .i64 r1]) 166 rfl rfl (by kernel_rfl) (by kernel_rfl) (by kernel_rfl) (fun _ _ _ h => h) (Or.inl ⟨by rfl, ?_⟩) hHeld ?_
  · (intro wS hSw; (try dsimp only at hSw); go_simp)
  simp only [Act.put, List.setIfInBounds_toArray, List.set_cons_zero, List.set_cons_succ]
  refine hTake (i := 21) (v := .agg #[.slice A0 m0 c0, .int .i64 r0]) 168 rfl rfl (by kernel_rfl) (by kernel_rfl) (by kernel_rfl) (fun _ _ _ h => h) (Or.inl ⟨by rfl, ?_⟩) hHeld ?_
  · (intro wS hSw; (try dsimp only at hSw); go_simp)
  simp only [Act.put, List.setIfInBounds_toArray, List.set_cons_zero, List.set_cons_succ]
  refine hTake (i := 22) (v := .agg #[.slice A1 m1 c1, .int .i64 r1]) 169 rfl rfl (by kernel_rfl) (by kernel_rfl) (by kernel_rfl) (fun _ _ _ h => h) (Or.inl ⟨by rfl, ?_⟩) hHeld ?_
  · (intro wS hSw; (try dsimp only at hSw); go_simp)
  simp only [Act.put, List.setIfInBounds_toArray, List.set_cons_zero, List.set_cons_succ]
  refine wpAnyH_ready (rs := [20]) (by kernel_rfl) (by simp) ?_
  refine AllReadyH.cons rfl (fun K hK => ?_) AllReadyH.nil
  go_simp
  go_at_call 33
  with_reducible refine ((TD.out _ HB.out).1).mono ?_
  rintro e wn20 ⟨rfl, b9⟩
  clear pX0 sX0 nX0 pX1 sX1 nX1 pXx sXx nXx pXy sXy nXy
  replace X0 := rb2 X0 b9
  replace X1 := rb2 X1 b9
  replace X2 := rb2 X2 b9
  replace Xx := rb2 Xx b9
  replace Xy := rb2 Xy b9
  replace Xz := rb2 Xz b9
  replace Xu := rb2 Xu b9
  replace Rt := rrd Rt b9
  replace Rv := rrd Rv b9
  replace HB := btr HB b9 HB.out.size
  obtain ⟨pX0, sX0, nX0⟩ := xb2 X0
  obtain ⟨pX1, sX1, nX1⟩ := xb2 X1
  obtain ⟨pXx, sXx, nXx⟩ := xb2 Xx
  obtain ⟨pXy, sXy, nXy⟩ := xb2 Xy
  clear b9
  go_wp2_with fail
  refine hK.out _ _ ?_ (fun hHeld => ?_)
  · (try dsimp only); first | (refine ⟨?_, ?_, ?_, ?_, ?_, ?_, ?_, ?_⟩ <;> (with_reducible assumption)) | go_keep
  clear hK K
  try simp only [Act.put, List.setIfInBounds_toArray, List.set_cons_zero, List.set_cons_succ]
  refine wpAnyH_ready (rs := [23]) (by kernel_rfl) (by simp) ?_
  refine AllReadyH.cons rfl (fun K hK => ?_) AllReadyH.nil
  go_simp
  go_at_call 34
  with_reducible refine ((TD.out _ HB.out).2).mono ?_
  rintro e wn23 ⟨rfl, b9⟩
  clear pX0 sX0 nX0 pX1 sX1 nX1 pXx sXx nXx pXy sXy nXy
  replace X0 := rb2 X0 b9
  replace X1 := rb2 X1 b9
  replace X2 := rb2 X2 b9
  replace Xx := rb2 Xx b9
  replace Xy := rb2 Xy b9
  replace Xz := rb2 Xz b9
  replace Xu := rb2 Xu b9
  replace Rt := rrd Rt b9
  replace Rv := rrd Rv b9
  replace HB := btr HB b9 HB.out.size
  obtain ⟨pX0, sX0, nX0⟩ := xb2 X0
  obtain ⟨pX1, sX1, nX1⟩ := xb2 X1
  obtain ⟨pXx, sXx, nXx⟩ := xb2 Xx
  obtain ⟨pXy, sXy, nXy⟩ := xb2 Xy
  clear b9
  go_wp2_with fail
  refine hK.out _ _ ?_ (fun hHeld => ?_)
  · (try dsimp only); first | (refine ⟨?_, ?_, ?_, ?_, ?_, ?_, ?_, ?_⟩ <;> (with_reducible assumption)) | go_keep
  clear hK K
  try simp only [Act.put, List.setIfInBounds_toArray, List.set_cons_zero, List.set_cons_succ]
  refine hTake (i := 24) (v := .bool true) 171 rfl rfl (by kernel_rfl) (by kernel_rfl) (by kernel_rfl) (fun _ _ _ h => h) (Or.inl ⟨by rfl, ?_⟩) hHeld ?_
  · (intro wS hSw; (try dsimp only at hSw); go_simp)
  simp only [Act.put, List.setIfInBounds_toArray, List.set_cons_zero, List.set_cons_succ]
  refine hTake (i := 25) (v := .bool true) 172 rfl rfl (by kernel_rfl) (by kernel_rfl) (by kernel_rfl) (fun _ _ _ h => h) (Or.inl ⟨by rfl, ?_⟩) hHeld ?_
  · (intro wS hSw; (try dsimp only at hSw); go_simp)
  simp only [Act.put, List.setIfInBounds_toArray, List.set_cons_zero, List.set_cons_succ]
  refine hTake (i := 26) (v := .bool true) 173 rfl rfl (by kernel_rfl) (by kernel_rfl) (by kernel_rfl) (fun _ _ _ h => h) (Or.inl ⟨by rfl, ?_⟩) hHeld ?_
  · (intro wS hSw; (try dsimp only at hSw); go_simp)
  simp only [Act.put, List.setIfInBounds_toArray, List.set_cons_zero, List.set_cons_succ]
  refine hTake (i := 27) (v := .bool true) 174 rfl rfl (by kernel_rfl) (by kernel_rfl) (by kernel_rfl) (fun _ _ _ h => h) (Or.inl ⟨by rfl, ?_⟩) hHeld ?_
  · (intro wS hSw; (try dsimp only at hSw); go_simp)
  simp only [Act.put, List.setIfInBounds_toArray, List.set_cons_zero, List.set_cons_succ]
  refine hTake (i := 28) (v := .bool true) 175 rfl rfl (by kernel_rfl) (by kernel_rfl) (by kernel_rfl) (fun _ _ _ h => h) (Or.inl ⟨by rfl, ?_⟩) hHeld ?_
  · (intro wS hSw; (try dsimp only at hSw); go_simp)
  simp only [Act.put, List.setIfInBounds_toArray, List.set_cons_zero, List.set_cons_succ]
  refine hTake (i := 29) (v := .bool true) 6 rfl rfl (by kernel_rfl) (by kernel_rfl) (by kernel_rfl) (fun _ _ _ h => h) (Or.inl ⟨by rfl, ?_⟩) hHeld ?_
  · (intro wS hSw; (try dsimp only at hSw); go_simp)
  simp only [Act.put, List.setIfInBounds_toArray, List.set_cons_zero, List.set_cons_succ]
  refine wpAnyH_done (by kernel_rfl) ?_ _
  clear pX0 sX0 nX0 pX1 sX1 nX1 pXx sXx nXx pXy sXy nXy
  go_wp2
  go_ret
  exact ⟨rfl, HB.out⟩

end Go.Proofs.YtmfinkaphglmjaaDoor
