/-
  DiagramPartsMatchReference: the walk. (Written by lpar.py.)
-/
import Derived.Test.YtefepaackdhiiaaDoorNg
import Derived.Test.YtefepaackdhiiaaDoorNe
import Derived.Test.YtefepaackdhiiaaDoorNf
import Derived.Test.YtefepaackdhiiaaDoorNd
namespace Go.Proofs.YtefepaackdhiiaaDoor
open Go.RowKit Dg St
set_option linter.unusedVariables false
set_option linter.unusedSimpArgs false
attribute [local go_sem ↓] Go.wp_at_zero Go.wp_at_succ
theorem ctv_len {k d : Int} {f : Cfg → Bool} {N : Nat} {E : Int} (h : CtV k d f N E) : (Nn.Nt.dg N).length ≤ 1000 := by
  refine Nat.le_trans (Nn.Nt.dg_length_le (k := 3) ?_) (by decide)
  rcases h with ⟨_, rfl, _⟩ | ⟨_, _, rfl, _⟩ | ⟨_, _, _, rfl, _⟩ | ⟨_, hd, _, rfl, _⟩
  · decide
  · decide
  · decide
  · have := cnt_not d.toNat f
    refine Nat.lt_of_le_of_lt (show cnt d.toNat f ≤ 2 ^ d.toNat by omega) (Nat.lt_of_le_of_lt (Nat.pow_le_pow_right (by decide) (show d.toNat ≤ 64 by omega)) (by decide))
theorem srow {w w' : World} {B : Nat} {u : Value} {L : List Nat} (h : Hid (w.ownsRow B 3 1 u L.length (ints L))) (b : Below w.heap.size w w') : Hid (w'.ownsRow B 3 1 u L.length (ints L)) := Lib.hid (own_below h.out b)
theorem supL_len (k : Int) (f : Cfg → Bool) : (supL k f).length ≤ 1000 := by
  unfold supL
  split
  · unfold supn
    refine Nat.le_trans (List.length_filter_le _ _) ?_
    simp
  · simp
theorem nmb {w w' : World} {v : Value} {N : Nat} (h : Hid (Nn.Num w v N)) (b : Below w.heap.size w w') : Hid (Nn.Num w' v N) := Lib.hid (h.out.below b)
theorem twinsP {w : World} {A0 : Option Addr} {m0 c0 : Nat} {l0 : List Bi} {r0 : Int} (h0 : Hid (DOk w (⟨A0, m0, c0, l0, r0⟩ : DA))) (q0 : m0 ≤ 40) (hin : Hid (Ins w 0)) (v : Int) (b : Bool) (x : Nat) (hx : x < 18446744073709551616) :
    (∃ M n c, M.length ≤ 4096 ∧ Twin w 35 36 #[.agg #[.slice A0 m0 c0, .int .i64 r0], .int .i64 v, .bool b] M n c) ∧ (∃ M n c, M.length ≤ 4096 ∧ Twin w 37 38 #[.agg #[.slice A0 m0 c0, .int .i64 r0], .int .i64 v] M n c) ∧
    (∃ b, TwinB w 46 47 #[.agg #[.slice A0 m0 c0, .int .i64 r0], .int .u64 (x : Int)] b) := by
  refine ⟨⟨_, _, _, binR_len _ _, fun W hW => ⟨drestrict_any (dkh h0 hW) q0 (rin hin hW) v b, rrestrict_any (dkh h0 hW) q0 v b⟩⟩, ⟨_, _, _, binR_len _ _, fun W hW => ⟨dexists_any (dkh h0 hW) q0 (rin hin hW) v, rexists_any (dkh h0 hW) q0 v⟩⟩, ⟨_, fun W hW => ⟨dholds_any (dkh h0 hW) q0 x hx, rholds_any (dkh h0 hW) q0 x hx⟩⟩⟩
def VO (w w' : World) (M : List Br) (n : Nat) (z : Int) (e : Ending) : Prop := (∃ (A : Option Addr) (m c : Nat), e = .returned (.tuple #[.agg #[.slice A m c, .int .i64 (n : Int)], .int .i64 z]) ∧ M.length = m ∧ Rd w' w'.heap.size A (up M)) ∧ Below w.heap.size w w'
theorem twinV (v : Int) : ∃ (M : List Br) (n : Nat) (z : Int), M.length ≤ 4096 ∧ ∀ W : World, Calls Tryd.prog 43 #[.int .i64 v] W (fun e w' => VO W w' M n z e) ∧ Calls Tryd.prog 44 #[.int .i64 v] W (fun e w' => VO W w' M n z e) :=
  ⟨if conB v then [(v.toNat, 0, 1)] else [], if conB v then 2 else 0, if conB v then 0 else 1, by split <;> simp, fun W => ⟨dvar_any v W, rvar_any v W⟩⟩
set_option maxHeartbeats 40000000 in
set_option maxRecDepth 100000 in
theorem lawPar_walk (A0 : Option Addr) (m0 c0 : Nat) (l0 : List Bi) (r0 : Int) (v : Int) (x : Nat) (w : World) (h0 : Hid (m0 ≤ 40 → DOk w (⟨A0, m0, c0, l0, r0⟩ : DA))) (hv : -9223372036854775808 ≤ v ∧ v ≤ 9223372036854775807) (hx : x < 18446744073709551616) (HIN : Hid (Ins w 0)) :
    Calls Tryd.prog 4 #[.agg #[.slice A0 m0 c0, .int .i64 r0], .int .i64 v, .int .u64 (x : Int)] w fun e w' => e = .returned (.bool true) ∧ Below w.heap.size w w' := by
  obtain ⟨bq, hbq⟩ : ∃ bq, ((x : Int) % 2 == 1) = bq := ⟨_, rfl⟩
  have b0 := ab2 w (.cells #[.slice A0 m0 c0, .int .i64 r0] 24)
  have X0 : Hid (Blk (w.alloc (.cells #[.slice A0 m0 c0, .int .i64 r0] 24)) (w.heap.size) 2 (fun i => ([.slice A0 m0 c0, .int .i64 r0] : List Value).getD i undef)) := Lib.hid (Blk.new (w := w) (H := w.heap.size) (by simp) [.slice A0 m0 c0, .int .i64 r0] 24)
  have HB0 : Hid (Below w.heap.size w (w.alloc (.cells #[.slice A0 m0 c0, .int .i64 r0] 24))) := Lib.hid b0
  have HW0 : Hid ((w.alloc (.cells #[.slice A0 m0 c0, .int .i64 r0] 24)).heap.size = w.heap.size + 1) := Lib.hid (by simp)
  clear b0
  go_enter Tryd.func4, Tryd.ntmps4
  go_upto_region 1 with fail
  generalize (w.alloc (.cells #[.slice A0 m0 c0, .int .i64 r0] 24)) = w1 at *
  have HB := HB0
  clear HB0 HW0
  go_wp2_with fail
  with_reducible refine (sanity_ok _ (rin HIN HB.out)).mono ?_
  rintro e w2 ⟨rfl, b2⟩
  replace X0 := rb2 X0 b2
  replace HB := btr HB b2 HB.out.size
  clear b2
  obtain ⟨pX0, sX0, nX0⟩ := xb2 X0
  by_cases q0 : m0 ≤ 40
  rotate_left
  · have hf := lfew_any A0 m0 c0 r0
    rw [decide_eq_false q0] at hf
    have HF := Lib.hid hf
    clear hf
    go_wp2_with fail
    with_reducible refine (HF.out _).mono ?_
    rintro e w3 ⟨rfl, b3⟩
    have HB3 := btr HB b3 HB.out.size
    clear b3
    go_wp2
    go_ret
    exact ⟨rfl, HB3.out⟩
  have hf0 := lfew_any A0 m0 c0 r0
  rw [decide_eq_true q0] at hf0
  have HF0 := Lib.hid hf0
  clear hf0
  go_wp2_with fail
  with_reducible refine (HF0.out _).mono ?_
  rintro e v0 ⟨rfl, b3⟩
  clear pX0 sX0 nX0
  replace X0 := rb2 X0 b3
  replace HB := btr HB b3 HB.out.size
  clear b3
  clear HF0
  have H0 : Hid (DOk w (⟨A0, m0, c0, l0, r0⟩ : DA)) := Lib.hid (h0.out q0)
  clear h0
  obtain ⟨⟨Ma, na, za, la, t1⟩, ⟨Mo, no, zo, lo, t2⟩, ⟨bh, t3⟩⟩ := twinsP H0 q0 HIN v bq x hx
  have LA := Lib.hid la
  have LO := Lib.hid lo
  have TA := Lib.hid t1
  have TO := Lib.hid t2
  have TH := Lib.hid t3
  have TC : Hid (∀ W, Below w.heap.size w W → Calls Tryd.prog 39 #[.agg #[.slice A0 m0 c0, .int .i64 r0], .int .i64 v] W (fun e w' => CtA W w' (chk l0 r0) v (dset l0 r0) e) ∧ Calls Tryd.prog 40 #[.agg #[.slice A0 m0 c0, .int .i64 r0], .int .i64 v] W (fun e w' => CtA W w' (chk l0 r0) v (dset l0 r0) e)) := Lib.hid (fun W hW => ⟨dcount_any v (dkh H0 hW) q0, rct_any v (dkh H0 hW) q0⟩)
  have TL : Hid (∀ W, Below w.heap.size w W → Calls Tryd.prog 41 #[.agg #[.slice A0 m0 c0, .int .i64 r0]] W (fun e w' => LeA W w' (chk l0 r0) (dset l0 r0) e) ∧ Calls Tryd.prog 42 #[.agg #[.slice A0 m0 c0, .int .i64 r0]] W (fun e w' => LeA W w' (chk l0 r0) (dset l0 r0) e)) := Lib.hid (fun W hW => ⟨dleast_any (dkh H0 hW) q0, rleast_any (dkh H0 hW) q0⟩)
  have TS : Hid (∀ W, Below w.heap.size w W → Calls Tryd.prog 49 #[.agg #[.slice A0 m0 c0, .int .i64 r0]] W (fun e w' => ∃ u, e = .returned u ∧ SupO W w' u (supL (chk l0 r0) (dset l0 r0))) ∧ Calls Tryd.prog 50 #[.agg #[.slice A0 m0 c0, .int .i64 r0]] W (fun e w' => ∃ u, e = .returned u ∧ SupO W w' u (supL (chk l0 r0) (dset l0 r0)))) := Lib.hid (fun W hW => ⟨dsup_any (dkh H0 hW) q0, rsup_any (dkh H0 hW) q0⟩)
  obtain ⟨Mv, nv, zv, lv, t4⟩ := twinV v
  have LV := Lib.hid lv
  have TV := Lib.hid t4
  clear la lo t1 t2 t3 lv t4 H0 HIN q0
  obtain ⟨pX0, sX0, nX0⟩ := xb2 X0
  go_wp2_with fail
  clear pX0 sX0 nX0
  with_reducible refine ((TA.out _ HB.out).1).mono ?_
  rintro e ua ⟨⟨Aa, ma, ca, rfl, ea, ra, fa⟩, b5⟩
  replace X0 := rb2 X0 b5
  replace HB := btr HB b5 HB.out.size
  clear b5
  have Ra : Hid (RdF ua Aa Ma) := Lib.hid ra
  have La := Lib.hid ea
  clear ea ra fa
  obtain ⟨pX0, sX0, nX0⟩ := xb2 X0
  go_wp2_with fail
  clear pX0 sX0 nX0
  have ab := ab2 ua (.cells #[.slice Aa ma ca, .int .i64 (na : Int)] 24)
  have Xx := nb2 ua (.slice Aa ma ca) (.int .i64 (na : Int)) 24
  have hltXx : Hid (w.heap.size < ua.heap.size) := Lib.hid (X0.out.lt (by omega))
  replace X0 := rb2 X0 ab
  replace Ra := rrd Ra ab
  replace HB := btr HB ab HB.out.size
  clear ab
  generalize ua.alloc (.cells #[.slice Aa ma ca, .int .i64 (na : Int)] 24) = ka at *
  generalize hga : ua.heap.size = gx at *
  with_reducible refine ((TA.out _ HB.out).2).mono ?_
  rintro e ub ⟨⟨Ab, mb, cb, rfl, eb, rb, fb⟩, b5⟩
  replace X0 := rb2 X0 b5
  replace Xx := rb2 Xx b5
  replace Ra := rrd Ra b5
  replace HB := btr HB b5 HB.out.size
  clear b5
  have Rb : Hid (RdF ub Ab Ma) := Lib.hid rb
  have Lb := Lib.hid eb
  clear eb rb fb
  obtain ⟨pX0, sX0, nX0⟩ := xb2 X0
  go_wp2_with fail
  clear pX0 sX0 nX0
  have ab := ab2 ub (.cells #[.slice Ab mb cb, .int .i64 (na : Int)] 24)
  have Xy := nb2 ub (.slice Ab mb cb) (.int .i64 (na : Int)) 24
  have hltXy : Hid (gx < ub.heap.size) := Lib.hid (Xx.out.lt (by omega))
  replace X0 := rb2 X0 ab
  replace Xx := rb2 Xx ab
  replace Ra := rrd Ra ab
  replace Rb := rrd Rb ab
  replace HB := btr HB ab HB.out.size
  clear ab
  generalize ub.alloc (.cells #[.slice Ab mb cb, .int .i64 (na : Int)] 24) = kb at *
  generalize hgb : ub.heap.size = gy at *
  with_reducible refine ((TO.out _ HB.out).1).mono ?_
  rintro e uc ⟨⟨Ac, mc, cc, rfl, ec, rc, fc⟩, b5⟩
  replace X0 := rb2 X0 b5
  replace Xx := rb2 Xx b5
  replace Xy := rb2 Xy b5
  replace Ra := rrd Ra b5
  replace Rb := rrd Rb b5
  replace HB := btr HB b5 HB.out.size
  clear b5
  have Rc : Hid (RdF uc Ac Mo) := Lib.hid rc
  have Lc := Lib.hid ec
  clear ec rc fc
  obtain ⟨pX0, sX0, nX0⟩ := xb2 X0
  go_wp2_with fail
  clear pX0 sX0 nX0
  have ab := ab2 uc (.cells #[.slice Ac mc cc, .int .i64 (no : Int)] 24)
  have Xz := nb2 uc (.slice Ac mc cc) (.int .i64 (no : Int)) 24
  have hltXz : Hid (gy < uc.heap.size) := Lib.hid (Xy.out.lt (by omega))
  replace X0 := rb2 X0 ab
  replace Xx := rb2 Xx ab
  replace Xy := rb2 Xy ab
  replace Ra := rrd Ra ab
  replace Rb := rrd Rb ab
  replace Rc := rrd Rc ab
  replace HB := btr HB ab HB.out.size
  clear ab
  generalize uc.alloc (.cells #[.slice Ac mc cc, .int .i64 (no : Int)] 24) = kc at *
  generalize hgc : uc.heap.size = gz at *
  with_reducible refine ((TO.out _ HB.out).2).mono ?_
  rintro e uj ⟨⟨Aj, mj, cj, rfl, ej, rj, fj⟩, b5⟩
  replace X0 := rb2 X0 b5
  replace Xx := rb2 Xx b5
  replace Xy := rb2 Xy b5
  replace Xz := rb2 Xz b5
  replace Ra := rrd Ra b5
  replace Rb := rrd Rb b5
  replace Rc := rrd Rc b5
  replace HB := btr HB b5 HB.out.size
  clear b5
  have Rj : Hid (RdF uj Aj Mo) := Lib.hid rj
  have Lj := Lib.hid ej
  clear ej rj fj
  obtain ⟨pX0, sX0, nX0⟩ := xb2 X0
  go_upto_region 8 with fail
  clear pX0 sX0 nX0
  have ab := ab2 uj (.cells #[.slice Aj mj cj, .int .i64 (no : Int)] 24)
  have Xu := nb2 uj (.slice Aj mj cj) (.int .i64 (no : Int)) 24
  have hltXu : Hid (gz < uj.heap.size) := Lib.hid (Xz.out.lt (by omega))
  replace X0 := rb2 X0 ab
  replace Xx := rb2 Xx ab
  replace Xy := rb2 Xy ab
  replace Xz := rb2 Xz ab
  replace Ra := rrd Ra ab
  replace Rb := rrd Rb ab
  replace Rc := rrd Rc ab
  replace Rj := rrd Rj ab
  replace HB := btr HB ab HB.out.size
  clear ab
  generalize uj.alloc (.cells #[.slice Aj mj cj, .int .i64 (no : Int)] 24) = kj at *
  generalize hgj : uj.heap.size = gu at *
  obtain ⟨pXx, sXx, nXx⟩ := xb2 Xx
  obtain ⟨pXy, sXy, nXy⟩ := xb2 Xy
  go_wp2_with fail
  clear pXx sXx nXx pXy sXy nXy
  with_reducible refine (same_ok Ra Rb La Lb LA).mono ?_
  rintro e s1 ⟨rfl, b5⟩
  replace X0 := rb2 X0 b5
  replace Xx := rb2 Xx b5
  replace Xy := rb2 Xy b5
  replace Xz := rb2 Xz b5
  replace Xu := rb2 Xu b5
  replace Ra := rrd Ra b5
  replace Rb := rrd Rb b5
  replace Rc := rrd Rc b5
  replace Rj := rrd Rj b5
  replace HB := btr HB b5 HB.out.size
  clear b5
  obtain ⟨pXz, sXz, nXz⟩ := xb2 Xz
  obtain ⟨pXu, sXu, nXu⟩ := xb2 Xu
  go_wp2_with fail
  clear pXz sXz nXz pXu sXu nXu
  with_reducible refine (same_ok Rc Rj Lc Lj LO).mono ?_
  rintro e s2 ⟨rfl, b5⟩
  replace X0 := rb2 X0 b5
  replace Xx := rb2 Xx b5
  replace Xy := rb2 Xy b5
  replace Xz := rb2 Xz b5
  replace Xu := rb2 Xu b5
  replace Ra := rrd Ra b5
  replace Rb := rrd Rb b5
  replace Rc := rrd Rc b5
  replace Rj := rrd Rj b5
  replace HB := btr HB b5 HB.out.size
  clear b5
  clear Ra Rb Rc Rj La Lb Lc Lj
  clear Xx Xy Xz Xu hltXx hltXy hltXz hltXu
  obtain ⟨pX0, sX0, nX0⟩ := xb2 X0
  go_wp2_with fail
  clear pX0 sX0 nX0
  with_reducible refine ((TC.out _ HB.out).1).mono ?_
  rintro e un ⟨⟨vn, Nn, En, rfl, nn, dn⟩, b5⟩
  replace X0 := rb2 X0 b5
  replace HB := btr HB b5 HB.out.size
  clear b5
  have Qn := Lib.hid nn
  have Dn := Lib.hid dn
  clear nn dn
  obtain ⟨pX0, sX0, nX0⟩ := xb2 X0
  go_wp2_with fail
  clear pX0 sX0 nX0
  with_reducible refine ((TC.out _ HB.out).2).mono ?_
  rintro e ui ⟨⟨vi, Ni, Ei, rfl, ni, di⟩, b5⟩
  replace X0 := rb2 X0 b5
  replace Qn := nmb Qn b5
  replace HB := btr HB b5 HB.out.size
  clear b5
  have Qi := Lib.hid ni
  have Di := Lib.hid di
  clear ni di
  obtain ⟨e1, e2⟩ := CtV.unique Di.out Dn.out
  subst e1
  subst e2
  clear Di
  obtain ⟨pX0, sX0, nX0⟩ := xb2 X0
  go_wp2_with fail
  clear pX0 sX0 nX0
  with_reducible refine ((TL.out _ HB.out).1).mono ?_
  rintro e uk ⟨⟨xk, bk, rfl, dk⟩, b5⟩
  replace X0 := rb2 X0 b5
  replace Qn := nmb Qn b5
  replace Qi := nmb Qi b5
  replace HB := btr HB b5 HB.out.size
  clear b5
  have Dk := Lib.hid dk
  clear dk
  obtain ⟨pX0, sX0, nX0⟩ := xb2 X0
  go_wp2_with fail
  clear pX0 sX0 nX0
  with_reducible refine ((TL.out _ HB.out).2).mono ?_
  rintro e ul ⟨⟨xl, bl, rfl, dl⟩, b5⟩
  replace X0 := rb2 X0 b5
  replace Qn := nmb Qn b5
  replace Qi := nmb Qi b5
  replace HB := btr HB b5 HB.out.size
  clear b5
  have Dl := Lib.hid dl
  clear dl
  obtain ⟨e1, e2⟩ := LeV.unique Dl.out Dk.out
  subst e1
  subst e2
  clear Dl Dk
  go_wp2_with fail
  with_reducible refine ((TV.out _).1).mono ?_
  rintro e up ⟨⟨Ap, mp, cp, rfl, ep, rp⟩, b5⟩
  replace X0 := rb2 X0 b5
  replace Qn := nmb Qn b5
  replace Qi := nmb Qi b5
  replace HB := btr HB b5 HB.out.size
  clear b5
  have Rp : Hid (RdF up Ap Mv) := Lib.hid rp
  have Lp := Lib.hid ep
  clear ep rp
  go_wp2_with fail
  have ab := ab2 up (.cells #[.slice Ap mp cp, .int .i64 (nv : Int)] 24)
  have Xp := nb2 up (.slice Ap mp cp) (.int .i64 (nv : Int)) 24
  have hltXp : Hid (w.heap.size < up.heap.size) := Lib.hid (X0.out.lt (by omega))
  replace X0 := rb2 X0 ab
  replace Rp := rrd Rp ab
  replace Qn := nmb Qn ab
  replace Qi := nmb Qi ab
  replace HB := btr HB ab HB.out.size
  clear ab
  generalize up.alloc (.cells #[.slice Ap mp cp, .int .i64 (nv : Int)] 24) = kp at *
  generalize hgp : up.heap.size = gp at *
  with_reducible refine ((TV.out _).2).mono ?_
  rintro e uq ⟨⟨Aq, mq, cq, rfl, eq, rq⟩, b5⟩
  replace X0 := rb2 X0 b5
  replace Xp := rb2 Xp b5
  replace Rp := rrd Rp b5
  replace Qn := nmb Qn b5
  replace Qi := nmb Qi b5
  replace HB := btr HB b5 HB.out.size
  clear b5
  have Rq : Hid (RdF uq Aq Mv) := Lib.hid rq
  have Lq := Lib.hid eq
  clear eq rq
  go_upto_region 16 with fail
  have ab := ab2 uq (.cells #[.slice Aq mq cq, .int .i64 (nv : Int)] 24)
  have Xq := nb2 uq (.slice Aq mq cq) (.int .i64 (nv : Int)) 24
  have hltXq : Hid (gp < uq.heap.size) := Lib.hid (Xp.out.lt (by omega))
  replace X0 := rb2 X0 ab
  replace Xp := rb2 Xp ab
  replace Rp := rrd Rp ab
  replace Rq := rrd Rq ab
  replace Qn := nmb Qn ab
  replace Qi := nmb Qi ab
  replace HB := btr HB ab HB.out.size
  clear ab
  generalize uq.alloc (.cells #[.slice Aq mq cq, .int .i64 (nv : Int)] 24) = kq at *
  generalize hgq : uq.heap.size = gq at *
  have dr := (Below.refl kq.heap.size kq).drew
  replace X0 := rb2 X0 dr
  replace Xp := rb2 Xp dr
  replace Xq := rb2 Xq dr
  replace Rp := rrd Rp dr
  replace Rq := rrd Rq dr
  replace Qn := nmb Qn dr
  replace Qi := nmb Qi dr
  replace HB := btr HB dr HB.out.size
  clear dr
  obtain ⟨pX0, sX0, nX0⟩ := xb2 X0
  obtain ⟨pXp, sXp, nXp⟩ := xb2 Xp
  obtain ⟨pXq, sXq, nXq⟩ := xb2 Xq
  refine wp_region_held_drew (S := (fun w' => w'.cell? ⟨w.heap.size, 0, none⟩ = some (.slice A0 m0 c0) ∧ w'.cell? ⟨w.heap.size, 1, none⟩ = some (.int .i64 r0) ∧ w'.cell? ⟨gp, 0, none⟩ = some (.slice Ap mp cp) ∧ w'.cell? ⟨gp, 1, none⟩ = some (.int .i64 (nv : Int)) ∧ w'.cell? ⟨gq, 0, none⟩ = some (.slice Aq mq cq) ∧ w'.cell? ⟨gq, 1, none⟩ = some (.int .i64 (nv : Int)))) (by kernel_rfl) ?_ (fun hHeld => ?_)
  · (try dsimp only); first | (refine ⟨?_, ?_, ?_, ?_, ?_, ?_⟩ <;> (with_reducible assumption)) | go_keep
  refine hTake (i := 0) (v := vn) 115 rfl rfl (by kernel_rfl) (by kernel_rfl) (by kernel_rfl) (fun _ _ _ h => h) (Or.inl ⟨by rfl, ?_⟩) hHeld ?_
  · (intro wS hSw; (try dsimp only at hSw); go_simp)
  simp only [Act.put, List.setIfInBounds_toArray, List.set_cons_zero, List.set_cons_succ]
  refine hTake (i := 1) (v := vi) 116 rfl rfl (by kernel_rfl) (by kernel_rfl) (by kernel_rfl) (fun _ _ _ h => h) (Or.inl ⟨by rfl, ?_⟩) hHeld ?_
  · (intro wS hSw; (try dsimp only at hSw); go_simp)
  simp only [Act.put, List.setIfInBounds_toArray, List.set_cons_zero, List.set_cons_succ]
  refine wpAnyH_ready (rs := [2]) (by kernel_rfl) (by simp) ?_
  refine AllReadyH.cons rfl (fun K hK => ?_) AllReadyH.nil
  go_simp
  go_at_call 45
  with_reducible refine (lsame_nat Qn.out Qi.out (ctv_len Dn.out)).mono ?_
  rintro e wn2 ⟨rfl, b9⟩
  clear pX0 sX0 nX0 pXp sXp nXp pXq sXq nXq
  replace X0 := rb2 X0 b9
  replace Xp := rb2 Xp b9
  replace Xq := rb2 Xq b9
  replace Rp := rrd Rp b9
  replace Rq := rrd Rq b9
  replace Qn := nmb Qn b9
  replace Qi := nmb Qi b9
  replace HB := btr HB b9 HB.out.size
  obtain ⟨pX0, sX0, nX0⟩ := xb2 X0
  obtain ⟨pXp, sXp, nXp⟩ := xb2 Xp
  obtain ⟨pXq, sXq, nXq⟩ := xb2 Xq
  clear b9
  go_wp2_with fail
  refine hK.out _ _ ?_ (fun hHeld => ?_)
  · (try dsimp only); first | (refine ⟨?_, ?_, ?_, ?_, ?_, ?_⟩ <;> (with_reducible assumption)) | go_keep
  clear hK K
  try simp only [Act.put, List.setIfInBounds_toArray, List.set_cons_zero, List.set_cons_succ]
  refine hTake (i := 3) (v := .bool true) 118 rfl rfl (by kernel_rfl) (by kernel_rfl) (by kernel_rfl) (fun _ _ _ h => h) (Or.inl ⟨by rfl, ?_⟩) hHeld ?_
  · (intro wS hSw; (try dsimp only at hSw); go_simp)
  simp only [Act.put, List.setIfInBounds_toArray, List.set_cons_zero, List.set_cons_succ]
  refine hTake (i := 4) (v := .int .i64 Ei) 119 rfl rfl (by kernel_rfl) (by kernel_rfl) (by kernel_rfl) (fun _ _ _ h => h) (Or.inl ⟨by rfl, ?_⟩) hHeld ?_
  · (intro wS hSw; (try dsimp only at hSw); go_simp)
  simp only [Act.put, List.setIfInBounds_toArray, List.set_cons_zero, List.set_cons_succ]
  refine hTake (i := 5) (v := .int .i64 Ei) 120 rfl rfl (by kernel_rfl) (by kernel_rfl) (by kernel_rfl) (fun _ _ _ h => h) (Or.inl ⟨by rfl, ?_⟩) hHeld ?_
  · (intro wS hSw; (try dsimp only at hSw); go_simp)
  simp only [Act.put, List.setIfInBounds_toArray, List.set_cons_zero, List.set_cons_succ]
  refine hTake (i := 6) (v := .bool true) 121 rfl rfl (by kernel_rfl) (by kernel_rfl) (by kernel_rfl) (fun _ _ _ h => h) (Or.inl ⟨by rfl, ?_⟩) hHeld ?_
  · (intro wS hSw; (try dsimp only at hSw); go_simp)
  simp only [Act.put, List.setIfInBounds_toArray, List.set_cons_zero, List.set_cons_succ]
  refine hTake (i := 7) (v := .bool true) 122 rfl rfl (by kernel_rfl) (by kernel_rfl) (by kernel_rfl) (fun _ _ _ h => h) (Or.inl ⟨by rfl, ?_⟩) hHeld ?_
  · (intro wS hSw; (try dsimp only at hSw); go_simp)
  simp only [Act.put, List.setIfInBounds_toArray, List.set_cons_zero, List.set_cons_succ]
  refine hTake (i := 8) (v := .bool true) 123 rfl rfl (by kernel_rfl) (by kernel_rfl) (by kernel_rfl) (fun _ _ _ h => h) (Or.inl ⟨by rfl, ?_⟩) hHeld ?_
  · (intro wS hSw; (try dsimp only at hSw); go_simp)
  simp only [Act.put, List.setIfInBounds_toArray, List.set_cons_zero, List.set_cons_succ]
  refine hTake (i := 9) (v := .int .u64 (xl : Int)) 124 rfl rfl (by kernel_rfl) (by kernel_rfl) (by kernel_rfl) (fun _ _ _ h => h) (Or.inl ⟨by rfl, ?_⟩) hHeld ?_
  · (intro wS hSw; (try dsimp only at hSw); go_simp)
  simp only [Act.put, List.setIfInBounds_toArray, List.set_cons_zero, List.set_cons_succ]
  refine hTake (i := 10) (v := .int .u64 (xl : Int)) 125 rfl rfl (by kernel_rfl) (by kernel_rfl) (by kernel_rfl) (fun _ _ _ h => h) (Or.inl ⟨by rfl, ?_⟩) hHeld ?_
  · (intro wS hSw; (try dsimp only at hSw); go_simp)
  simp only [Act.put, List.setIfInBounds_toArray, List.set_cons_zero, List.set_cons_succ]
  refine hTake (i := 11) (v := .bool true) 126 rfl rfl (by kernel_rfl) (by kernel_rfl) (by kernel_rfl) (fun _ _ _ h => h) (Or.inl ⟨by rfl, ?_⟩) hHeld ?_
  · (intro wS hSw; (try dsimp only at hSw); go_simp)
  simp only [Act.put, List.setIfInBounds_toArray, List.set_cons_zero, List.set_cons_succ]
  refine hTake (i := 12) (v := .bool true) 127 rfl rfl (by kernel_rfl) (by kernel_rfl) (by kernel_rfl) (fun _ _ _ h => h) (Or.inl ⟨by rfl, ?_⟩) hHeld ?_
  · (intro wS hSw; (try dsimp only at hSw); go_simp)
  simp only [Act.put, List.setIfInBounds_toArray, List.set_cons_zero, List.set_cons_succ]
  refine hTake (i := 13) (v := .bool true) 128 rfl rfl (by kernel_rfl) (by kernel_rfl) (by kernel_rfl) (fun _ _ _ h => h) (Or.inl ⟨by rfl, ?_⟩) hHeld ?_
  · (intro wS hSw; (try dsimp only at hSw); go_simp)
  simp only [Act.put, List.setIfInBounds_toArray, List.set_cons_zero, List.set_cons_succ]
  refine hTake (i := 14) (v := .bool bl) 129 rfl rfl (by kernel_rfl) (by kernel_rfl) (by kernel_rfl) (fun _ _ _ h => h) (Or.inl ⟨by rfl, ?_⟩) hHeld ?_
  · (intro wS hSw; (try dsimp only at hSw); go_simp)
  simp only [Act.put, List.setIfInBounds_toArray, List.set_cons_zero, List.set_cons_succ]
  refine hTake (i := 15) (v := .bool bl) 130 rfl rfl (by kernel_rfl) (by kernel_rfl) (by kernel_rfl) (fun _ _ _ h => h) (Or.inl ⟨by rfl, ?_⟩) hHeld ?_
  · (intro wS hSw; (try dsimp only at hSw); go_simp)
  simp only [Act.put, List.setIfInBounds_toArray, List.set_cons_zero, List.set_cons_succ]
  refine hTake (i := 16) (v := .bool true) 131 rfl rfl (by kernel_rfl) (by kernel_rfl) (by kernel_rfl) (fun _ _ _ h => h) (Or.inl ⟨by rfl, ?_⟩) hHeld ?_
  · (intro wS hSw; (try dsimp only at hSw); go_simp)
  simp only [Act.put, List.setIfInBounds_toArray, List.set_cons_zero, List.set_cons_succ]
  refine hTake (i := 17) (v := .bool true) 132 rfl rfl (by kernel_rfl) (by kernel_rfl) (by kernel_rfl) (fun _ _ _ h => h) (Or.inl ⟨by rfl, ?_⟩) hHeld ?_
  · (intro wS hSw; (try dsimp only at hSw); go_simp)
  simp only [Act.put, List.setIfInBounds_toArray, List.set_cons_zero, List.set_cons_succ]
  refine hTake (i := 18) (v := .bool true) 133 rfl rfl (by kernel_rfl) (by kernel_rfl) (by kernel_rfl) (fun _ _ _ h => h) (Or.inl ⟨by rfl, ?_⟩) hHeld ?_
  · (intro wS hSw; (try dsimp only at hSw); go_simp)
  simp only [Act.put, List.setIfInBounds_toArray, List.set_cons_zero, List.set_cons_succ]
  refine hTake (i := 19) (v := .agg #[.slice Ap mp cp, .int .i64 (nv : Int)]) 134 rfl rfl (by kernel_rfl) (by kernel_rfl) (by kernel_rfl) (fun _ _ _ h => h) (Or.inl ⟨by rfl, ?_⟩) hHeld ?_
  · (intro wS hSw; (try dsimp only at hSw); go_simp)
  simp only [Act.put, List.setIfInBounds_toArray, List.set_cons_zero, List.set_cons_succ]
  refine hTake (i := 20) (v := .agg #[.slice Aq mq cq, .int .i64 (nv : Int)]) 135 rfl rfl (by kernel_rfl) (by kernel_rfl) (by kernel_rfl) (fun _ _ _ h => h) (Or.inl ⟨by rfl, ?_⟩) hHeld ?_
  · (intro wS hSw; (try dsimp only at hSw); go_simp)
  simp only [Act.put, List.setIfInBounds_toArray, List.set_cons_zero, List.set_cons_succ]
  refine wpAnyH_ready (rs := [21]) (by kernel_rfl) (by simp) ?_
  refine AllReadyH.cons rfl (fun K hK => ?_) AllReadyH.nil
  go_simp
  go_at_call 21
  with_reducible refine (same_ok Rp Rq Lp Lq LV).mono ?_
  rintro e wn21 ⟨rfl, b9⟩
  clear pX0 sX0 nX0 pXp sXp nXp pXq sXq nXq
  replace X0 := rb2 X0 b9
  replace Xp := rb2 Xp b9
  replace Xq := rb2 Xq b9
  replace Rp := rrd Rp b9
  replace Rq := rrd Rq b9
  replace Qn := nmb Qn b9
  replace Qi := nmb Qi b9
  replace HB := btr HB b9 HB.out.size
  obtain ⟨pX0, sX0, nX0⟩ := xb2 X0
  obtain ⟨pXp, sXp, nXp⟩ := xb2 Xp
  obtain ⟨pXq, sXq, nXq⟩ := xb2 Xq
  clear b9
  go_wp2_with fail
  refine hK.out _ _ ?_ (fun hHeld => ?_)
  · (try dsimp only); first | (refine ⟨?_, ?_, ?_, ?_, ?_, ?_⟩ <;> (with_reducible assumption)) | go_keep
  clear hK K
  try simp only [Act.put, List.setIfInBounds_toArray, List.set_cons_zero, List.set_cons_succ]
  refine hTake (i := 22) (v := .bool true) 137 rfl rfl (by kernel_rfl) (by kernel_rfl) (by kernel_rfl) (fun _ _ _ h => h) (Or.inl ⟨by rfl, ?_⟩) hHeld ?_
  · (intro wS hSw; (try dsimp only at hSw); go_simp)
  simp only [Act.put, List.setIfInBounds_toArray, List.set_cons_zero, List.set_cons_succ]
  refine hTake (i := 23) (v := .bool true) 138 rfl rfl (by kernel_rfl) (by kernel_rfl) (by kernel_rfl) (fun _ _ _ h => h) (Or.inl ⟨by rfl, ?_⟩) hHeld ?_
  · (intro wS hSw; (try dsimp only at hSw); go_simp)
  simp only [Act.put, List.setIfInBounds_toArray, List.set_cons_zero, List.set_cons_succ]
  refine hTake (i := 24) (v := .int .i64 zv) 139 rfl rfl (by kernel_rfl) (by kernel_rfl) (by kernel_rfl) (fun _ _ _ h => h) (Or.inl ⟨by rfl, ?_⟩) hHeld ?_
  · (intro wS hSw; (try dsimp only at hSw); go_simp)
  simp only [Act.put, List.setIfInBounds_toArray, List.set_cons_zero, List.set_cons_succ]
  refine hTake (i := 25) (v := .int .i64 zv) 140 rfl rfl (by kernel_rfl) (by kernel_rfl) (by kernel_rfl) (fun _ _ _ h => h) (Or.inl ⟨by rfl, ?_⟩) hHeld ?_
  · (intro wS hSw; (try dsimp only at hSw); go_simp)
  simp only [Act.put, List.setIfInBounds_toArray, List.set_cons_zero, List.set_cons_succ]
  refine hTake (i := 26) (v := .bool true) 141 rfl rfl (by kernel_rfl) (by kernel_rfl) (by kernel_rfl) (fun _ _ _ h => h) (Or.inl ⟨by rfl, ?_⟩) hHeld ?_
  · (intro wS hSw; (try dsimp only at hSw); go_simp)
  simp only [Act.put, List.setIfInBounds_toArray, List.set_cons_zero, List.set_cons_succ]
  refine hTake (i := 27) (v := .bool true) 142 rfl rfl (by kernel_rfl) (by kernel_rfl) (by kernel_rfl) (fun _ _ _ h => h) (Or.inl ⟨by rfl, ?_⟩) hHeld ?_
  · (intro wS hSw; (try dsimp only at hSw); go_simp)
  simp only [Act.put, List.setIfInBounds_toArray, List.set_cons_zero, List.set_cons_succ]
  refine hTake (i := 28) (v := .bool true) 143 rfl rfl (by kernel_rfl) (by kernel_rfl) (by kernel_rfl) (fun _ _ _ h => h) (Or.inl ⟨by rfl, ?_⟩) hHeld ?_
  · (intro wS hSw; (try dsimp only at hSw); go_simp)
  simp only [Act.put, List.setIfInBounds_toArray, List.set_cons_zero, List.set_cons_succ]
  refine hTake (i := 29) (v := .agg #[.slice A0 m0 c0, .int .i64 r0]) 144 rfl rfl (by kernel_rfl) (by kernel_rfl) (by kernel_rfl) (fun _ _ _ h => h) (Or.inl ⟨by rfl, ?_⟩) hHeld ?_
  · (intro wS hSw; (try dsimp only at hSw); go_simp)
  simp only [Act.put, List.setIfInBounds_toArray, List.set_cons_zero, List.set_cons_succ]
  refine hTake (i := 30) (v := .int .u64 (x : Int)) 145 rfl rfl (by kernel_rfl) (by kernel_rfl) (by kernel_rfl) (fun _ _ _ h => h) (Or.inl ⟨by rfl, ?_⟩) hHeld ?_
  · (intro wS hSw; (try dsimp only at hSw); go_simp)
  simp only [Act.put, List.setIfInBounds_toArray, List.set_cons_zero, List.set_cons_succ]
  refine hTake (i := 32) (v := .agg #[.slice A0 m0 c0, .int .i64 r0]) 147 rfl rfl (by kernel_rfl) (by kernel_rfl) (by kernel_rfl) (fun _ _ _ h => h) (Or.inl ⟨by rfl, ?_⟩) hHeld ?_
  · (intro wS hSw; (try dsimp only at hSw); go_simp)
  simp only [Act.put, List.setIfInBounds_toArray, List.set_cons_zero, List.set_cons_succ]
  refine hTake (i := 33) (v := .int .u64 (x : Int)) 148 rfl rfl (by kernel_rfl) (by kernel_rfl) (by kernel_rfl) (fun _ _ _ h => h) (Or.inl ⟨by rfl, ?_⟩) hHeld ?_
  · (intro wS hSw; (try dsimp only at hSw); go_simp)
  simp only [Act.put, List.setIfInBounds_toArray, List.set_cons_zero, List.set_cons_succ]
  refine wpAnyH_ready (rs := [31]) (by kernel_rfl) (by simp) ?_
  refine AllReadyH.cons rfl (fun K hK => ?_) AllReadyH.nil
  go_simp
  go_at_call 46
  with_reducible refine ((TH.out _ HB.out).1).mono ?_
  rintro e wn31 ⟨rfl, b9⟩
  clear pX0 sX0 nX0 pXp sXp nXp pXq sXq nXq
  replace X0 := rb2 X0 b9
  replace Xp := rb2 Xp b9
  replace Xq := rb2 Xq b9
  replace Rp := rrd Rp b9
  replace Rq := rrd Rq b9
  replace Qn := nmb Qn b9
  replace Qi := nmb Qi b9
  replace HB := btr HB b9 HB.out.size
  obtain ⟨pX0, sX0, nX0⟩ := xb2 X0
  obtain ⟨pXp, sXp, nXp⟩ := xb2 Xp
  obtain ⟨pXq, sXq, nXq⟩ := xb2 Xq
  clear b9
  go_wp2_with fail
  refine hK.out _ _ ?_ (fun hHeld => ?_)
  · (try dsimp only); first | (refine ⟨?_, ?_, ?_, ?_, ?_, ?_⟩ <;> (with_reducible assumption)) | go_keep
  clear hK K
  try simp only [Act.put, List.setIfInBounds_toArray, List.set_cons_zero, List.set_cons_succ]
  refine wpAnyH_ready (rs := [34]) (by kernel_rfl) (by simp) ?_
  refine AllReadyH.cons rfl (fun K hK => ?_) AllReadyH.nil
  go_simp
  go_at_call 47
  with_reducible refine ((TH.out _ HB.out).2).mono ?_
  rintro e wn34 ⟨rfl, b9⟩
  clear pX0 sX0 nX0 pXp sXp nXp pXq sXq nXq
  replace X0 := rb2 X0 b9
  replace Xp := rb2 Xp b9
  replace Xq := rb2 Xq b9
  replace Rp := rrd Rp b9
  replace Rq := rrd Rq b9
  replace Qn := nmb Qn b9
  replace Qi := nmb Qi b9
  replace HB := btr HB b9 HB.out.size
  obtain ⟨pX0, sX0, nX0⟩ := xb2 X0
  obtain ⟨pXp, sXp, nXp⟩ := xb2 Xp
  obtain ⟨pXq, sXq, nXq⟩ := xb2 Xq
  clear b9
  go_wp2_with fail
  refine hK.out _ _ ?_ (fun hHeld => ?_)
  · (try dsimp only); first | (refine ⟨?_, ?_, ?_, ?_, ?_, ?_⟩ <;> (with_reducible assumption)) | go_keep
  clear hK K
  try simp only [Act.put, List.setIfInBounds_toArray, List.set_cons_zero, List.set_cons_succ]
  refine hTake (i := 35) (v := .bool true) 150 rfl rfl (by kernel_rfl) (by kernel_rfl) (by kernel_rfl) (fun _ _ _ h => h) (Or.inl ⟨by rfl, ?_⟩) hHeld ?_
  · (intro wS hSw; (try dsimp only at hSw); go_simp)
  simp only [Act.put, List.setIfInBounds_toArray, List.set_cons_zero, List.set_cons_succ]
  refine hTake (i := 36) (v := .bool true) 151 rfl rfl (by kernel_rfl) (by kernel_rfl) (by kernel_rfl) (fun _ _ _ h => h) (Or.inl ⟨by rfl, ?_⟩) hHeld ?_
  · (intro wS hSw; (try dsimp only at hSw); go_simp)
  simp only [Act.put, List.setIfInBounds_toArray, List.set_cons_zero, List.set_cons_succ]
  refine hTake (i := 37) (v := .bool true) 152 rfl rfl (by kernel_rfl) (by kernel_rfl) (by kernel_rfl) (fun _ _ _ h => h) (Or.inl ⟨by rfl, ?_⟩) hHeld ?_
  · (intro wS hSw; (try dsimp only at hSw); go_simp)
  simp only [Act.put, List.setIfInBounds_toArray, List.set_cons_zero, List.set_cons_succ]
  refine hTake (i := 38) (v := .agg #[.slice A0 m0 c0, .int .i64 r0]) 153 rfl rfl (by kernel_rfl) (by kernel_rfl) (by kernel_rfl) (fun _ _ _ h => h) (Or.inl ⟨by rfl, ?_⟩) hHeld ?_
  · (intro wS hSw; (try dsimp only at hSw); go_simp)
  simp only [Act.put, List.setIfInBounds_toArray, List.set_cons_zero, List.set_cons_succ]
  refine hTake (i := 40) (v := .agg #[.slice A0 m0 c0, .int .i64 r0]) 155 rfl rfl (by kernel_rfl) (by kernel_rfl) (by kernel_rfl) (fun _ _ _ h => h) (Or.inl ⟨by rfl, ?_⟩) hHeld ?_
  · (intro wS hSw; (try dsimp only at hSw); go_simp)
  simp only [Act.put, List.setIfInBounds_toArray, List.set_cons_zero, List.set_cons_succ]
  refine wpAnyH_ready (rs := [39]) (by kernel_rfl) (by simp) ?_
  refine AllReadyH.cons rfl (fun K hK => ?_) AllReadyH.nil
  go_simp
  go_at_call 49
  with_reducible refine ((TS.out _ HB.out).1).mono ?_
  rintro e wn39 ⟨ua, rfl, ⟨sa, b9⟩⟩
  clear pX0 sX0 nX0 pXp sXp nXp pXq sXq nXq
  replace X0 := rb2 X0 b9
  replace Xp := rb2 Xp b9
  replace Xq := rb2 Xq b9
  replace Rp := rrd Rp b9
  replace Rq := rrd Rq b9
  replace Qn := nmb Qn b9
  replace Qi := nmb Qi b9
  replace HB := btr HB b9 HB.out.size
  obtain ⟨pX0, sX0, nX0⟩ := xb2 X0
  obtain ⟨pXp, sXp, nXp⟩ := xb2 Xp
  obtain ⟨pXq, sXq, nXq⟩ := xb2 Xq
  clear b9
  have SA := Lib.hid sa
  clear sa
  go_wp2_with fail
  refine hK.out _ _ ?_ (fun hHeld => ?_)
  · (try dsimp only); first | (refine ⟨?_, ?_, ?_, ?_, ?_, ?_⟩ <;> (with_reducible assumption)) | go_keep
  clear hK K
  try simp only [Act.put, List.setIfInBounds_toArray, List.set_cons_zero, List.set_cons_succ]
  refine wpAnyH_ready (rs := [41]) (by kernel_rfl) (by simp) ?_
  refine AllReadyH.cons rfl (fun K hK => ?_) AllReadyH.nil
  go_simp
  go_at_call 50
  with_reducible refine ((TS.out _ HB.out).2).mono ?_
  rintro e wn41 ⟨ub, rfl, ⟨sb, b9⟩⟩
  clear pX0 sX0 nX0 pXp sXp nXp pXq sXq nXq
  replace X0 := rb2 X0 b9
  replace Xp := rb2 Xp b9
  replace Xq := rb2 Xq b9
  replace Rp := rrd Rp b9
  replace Rq := rrd Rq b9
  replace Qn := nmb Qn b9
  replace Qi := nmb Qi b9
  replace SA := srow SA b9
  replace HB := btr HB b9 HB.out.size
  obtain ⟨pX0, sX0, nX0⟩ := xb2 X0
  obtain ⟨pXp, sXp, nXp⟩ := xb2 Xp
  obtain ⟨pXq, sXq, nXq⟩ := xb2 Xq
  clear b9
  have SB := Lib.hid sb
  clear sb
  go_wp2_with fail
  refine hK.out _ _ ?_ (fun hHeld => ?_)
  · (try dsimp only); first | (refine ⟨?_, ?_, ?_, ?_, ?_, ?_⟩ <;> (with_reducible assumption)) | go_keep
  clear hK K
  try simp only [Act.put, List.setIfInBounds_toArray, List.set_cons_zero, List.set_cons_succ]
  refine wpAnyH_ready (rs := [42]) (by kernel_rfl) (by simp) ?_
  refine AllReadyH.cons rfl (fun K hK => ?_) AllReadyH.nil
  go_simp
  go_at_call 48
  with_reducible refine (lsame_ints SA SB (supL_len _ _)).mono ?_
  rintro e wn42 ⟨rfl, b9⟩
  clear pX0 sX0 nX0 pXp sXp nXp pXq sXq nXq
  replace X0 := rb2 X0 b9
  replace Xp := rb2 Xp b9
  replace Xq := rb2 Xq b9
  replace Rp := rrd Rp b9
  replace Rq := rrd Rq b9
  replace Qn := nmb Qn b9
  replace Qi := nmb Qi b9
  replace SA := srow SA b9
  replace SB := srow SB b9
  replace HB := btr HB b9 HB.out.size
  obtain ⟨pX0, sX0, nX0⟩ := xb2 X0
  obtain ⟨pXp, sXp, nXp⟩ := xb2 Xp
  obtain ⟨pXq, sXq, nXq⟩ := xb2 Xq
  clear b9
  go_wp2_with fail
  refine hK.out _ _ ?_ (fun hHeld => ?_)
  · (try dsimp only); first | (refine ⟨?_, ?_, ?_, ?_, ?_, ?_⟩ <;> (with_reducible assumption)) | go_keep
  clear hK K
  try simp only [Act.put, List.setIfInBounds_toArray, List.set_cons_zero, List.set_cons_succ]
  refine hTake (i := 43) (v := .bool true) 158 rfl rfl (by kernel_rfl) (by kernel_rfl) (by kernel_rfl) (fun _ _ _ h => h) (Or.inl ⟨by rfl, ?_⟩) hHeld ?_
  · (intro wS hSw; (try dsimp only at hSw); go_simp)
  simp only [Act.put, List.setIfInBounds_toArray, List.set_cons_zero, List.set_cons_succ]
  refine hTake (i := 44) (v := .bool true) 159 rfl rfl (by kernel_rfl) (by kernel_rfl) (by kernel_rfl) (fun _ _ _ h => h) (Or.inl ⟨by rfl, ?_⟩) hHeld ?_
  · (intro wS hSw; (try dsimp only at hSw); go_simp)
  simp only [Act.put, List.setIfInBounds_toArray, List.set_cons_zero, List.set_cons_succ]
  refine hTake (i := 45) (v := .bool true) 160 rfl rfl (by kernel_rfl) (by kernel_rfl) (by kernel_rfl) (fun _ _ _ h => h) (Or.inl ⟨by rfl, ?_⟩) hHeld ?_
  · (intro wS hSw; (try dsimp only at hSw); go_simp)
  simp only [Act.put, List.setIfInBounds_toArray, List.set_cons_zero, List.set_cons_succ]
  refine hTake (i := 46) (v := .bool true) 161 rfl rfl (by kernel_rfl) (by kernel_rfl) (by kernel_rfl) (fun _ _ _ h => h) (Or.inl ⟨by rfl, ?_⟩) hHeld ?_
  · (intro wS hSw; (try dsimp only at hSw); go_simp)
  simp only [Act.put, List.setIfInBounds_toArray, List.set_cons_zero, List.set_cons_succ]
  refine hTake (i := 47) (v := .bool true) 6 rfl rfl (by kernel_rfl) (by kernel_rfl) (by kernel_rfl) (fun _ _ _ h => h) (Or.inl ⟨by rfl, ?_⟩) hHeld ?_
  · (intro wS hSw; (try dsimp only at hSw); go_simp)
  simp only [Act.put, List.setIfInBounds_toArray, List.set_cons_zero, List.set_cons_succ]
  refine wpAnyH_done (by kernel_rfl) ?_ _
  go_wp2
  go_ret
  exact ⟨rfl, HB.out⟩
end Go.Proofs.YtefepaackdhiiaaDoor
