/-
  DiagramInclusion: Within holds exactly if the intersection is the first set, and Disjoint exactly if it is empty; both ways around, inclusion is equality. (Written by linc.py.)
-/
import Derived.Test.YtpeahjfkiehniaaDoorMk
import Derived.Test.YtpeahjfkiehniaaDoorMi
import Derived.Test.YtpeahjfkiehniaaDoorMq
import Derived.Test.YtpeahjfkiehniaaDoorMr
namespace Go.Proofs.YtpeahjfkiehniaaDoor
open Go.RowKit Dg St
attribute [local go_sem ↓] Go.wp_at_zero Go.wp_at_succ

/-- what stays through the law's last part -/
structure IncS (w wr : World) (g0 g1 g2 : Nat) (A0 : Option Addr) (m0 c0 r0 : Nat) (A1 : Option Addr) (m1 c1 r1 : Nat) (A2 : Option Addr) (m2 c2 r2 : Nat) (fa fb g : Cfg → Bool) : Prop where
  bel : Below w.heap.size w wr
  ins : Ins wr 0
  b0 : B2 wr g0 (.slice A0 m0 c0) (.int .i64 (r0 : Int))
  b1 : B2 wr g1 (.slice A1 m1 c1) (.int .i64 (r1 : Int))
  b2 : B2 wr g2 (.slice A2 m2 c2) (.int .i64 (r2 : Int))
  d0 : Dn wr A0 m0 c0 r0 fa
  d1 : Dn wr A1 m1 c1 r1 fb
  d2 : Dn wr A2 m2 c2 r2 g
theorem IncS.below {w wr w' : World} {g0 g1 g2 m0 c0 r0 m1 c1 r1 m2 c2 r2 : Nat} {A0 A1 A2 : Option Addr} {fa fb g : Cfg → Bool} (h : IncS w wr g0 g1 g2 A0 m0 c0 r0 A1 m1 c1 r1 A2 m2 c2 r2 fa fb g) (hb : Below wr.heap.size wr w') : IncS w w' g0 g1 g2 A0 m0 c0 r0 A1 m1 c1 r1 A2 m2 c2 r2 fa fb g :=
  ⟨h.bel.trans (hb.mono h.bel.size), h.ins.below hb, h.b0.below (by omega) hb, h.b1.below (by omega) hb, h.b2.below (by omega) hb, h.d0.below hb, h.d1.below hb, h.d2.below hb⟩
theorem IncS.below' {w wr w' : World} {g0 g1 g2 m0 c0 r0 m1 c1 r1 m2 c2 r2 : Nat} {A0 A1 A2 : Option Addr} {fa fb g : Cfg → Bool} (h : IncS w wr g0 g1 g2 A0 m0 c0 r0 A1 m1 c1 r1 A2 m2 c2 r2 fa fb g) (hb : Below wr.drew.heap.size wr.drew w') : IncS w w' g0 g1 g2 A0 m0 c0 r0 A1 m1 c1 r1 A2 m2 c2 r2 fa fb g :=
  (h.below (Below.refl wr.heap.size wr).drew).below hb
theorem dn_false3 (w : World) : Dn w none 0 0 0 (fun _ => false) := ⟨by rw [cn_const]; exact Rd.nil, by rw [cn_const]; rfl, by rw [cn_const]; rfl, Nat.le_refl _, by omega, d64_const _⟩
theorem constant_nil3 (w : World) : Calls Tryd.prog 52 #[.bool false] w fun e w' => e = .returned (.agg #[.slice none 0 0, .int .i64 0]) ∧ Below w.heap.size w w' := constant_any false w

set_option maxHeartbeats 8000000 in
set_option maxRecDepth 100000 in
theorem lawInc_walk (N0 n0 c0 : Nat) (A0 : Option Addr) (l0 : List Nat) (N1 n1 c1 : Nat) (A1 : Option Addr) (l1 : List Nat) (w : World) (hN0 : N0 < 256) (h80 : Hid (R8 w A0 n0 l0)) (hn0 : n0 ≤ 9223372036854775807) (hN1 : N1 < 256) (h81 : Hid (R8 w A1 n1 l1)) (hn1 : n1 ≤ 9223372036854775807) (HIN : Hid (Ins w 0)) :
    Calls Tryd.prog 9 #[.agg #[.slice A0 n0 c0, .int .u8 (N0 : Int)], .agg #[.slice A1 n1 c1, .int .u8 (N1 : Int)]] w fun e w' => e = .returned (.bool true) ∧ Below w.heap.size w w' := by
  have b1 := ab2 w (.cells #[.slice A0 n0 c0, .int .u8 (N0 : Int)] 54)
  have b2 := ab2 (w.alloc (.cells #[.slice A0 n0 c0, .int .u8 (N0 : Int)] 54)) (.cells #[.slice A1 n1 c1, .int .u8 (N1 : Int)] 54)
  have X0 := rb2 (nb2 w (.slice A0 n0 c0) (.int .u8 (N0 : Int)) 54) b2
  have X1 := nb2 (w.alloc (.cells #[.slice A0 n0 c0, .int .u8 (N0 : Int)] 54)) (.slice A1 n1 c1) (.int .u8 (N1 : Int)) 54
  rw [show (w.alloc (.cells #[.slice A0 n0 c0, .int .u8 (N0 : Int)] 54)).heap.size = w.heap.size + 1 by simp] at X1
  have HB0 := Lib.hid (b1.trans (b2.mono b1.size))
  have HIN0 := rin HIN HB0.out
  have hm0 : ∀ w', Below w.heap.size w w' → Calls Tryd.prog 51 #[.agg #[.slice A0 n0 c0, .int .u8 (N0 : Int)]] w' fun e w'' => DiaOk w' w'' (sset l0 N0) e :=
    fun w' hb => lmade_ok N0 n0 c0 A0 l0 w' (Lib.hid (h80.out.below hb)) hN0 hn0
  have hm1 : ∀ w', Below w.heap.size w w' → Calls Tryd.prog 51 #[.agg #[.slice A1 n1 c1, .int .u8 (N1 : Int)]] w' fun e w'' => DiaOk w' w'' (sset l1 N1) e :=
    fun w' hb => lmade_ok N1 n1 c1 A1 l1 w' (Lib.hid (h81.out.below hb)) hN1 hn1
  have HL0 := Lib.hid (sset_low l0 N0)
  have HL1 := Lib.hid (sset_low l1 N1)
  generalize sset l0 N0 = fa at *
  generalize sset l1 N1 = fb at *
  clear b1 b2
  go_enter Tryd.func9, Tryd.ntmps9
  go_wp2_with fail
  with_reducible refine (sanity_ok _ HIN0).mono ?_
  rintro e w2 ⟨rfl, b2⟩
  replace X0 := rb2 X0 b2
  replace X1 := rb2 X1 b2
  have HB2 := btr HB0 b2 HB0.out.size
  have HIN2 := rin HIN0 b2
  clear b2 HB0 HIN0
  have HM0 : Hid (∀ w', Below w2.heap.size w2 w' → Calls Tryd.prog 51 #[.agg #[.slice A0 n0 c0, .int .u8 (N0 : Int)]] w' fun e w'' => DiaOk w' w'' fa e) := fun w' hb => hm0 w' (HB2.out.trans (hb.mono HB2.out.size))
  have HM1 : Hid (∀ w', Below w2.heap.size w2 w' → Calls Tryd.prog 51 #[.agg #[.slice A1 n1 c1, .int .u8 (N1 : Int)]] w' fun e w'' => DiaOk w' w'' fb e) := fun w' hb => hm1 w' (HB2.out.trans (hb.mono HB2.out.size))
  clear hm0 hm1
  obtain ⟨ff, hff0, hff1⟩ : ∃ ff : Nat → Cfg → Bool, ff 0 = fa ∧ ff 1 = fb := ⟨fun i => if i = 0 then fa else fb, rfl, rfl⟩
  obtain ⟨argv, hav0, hav1⟩ : ∃ argv : Nat → Value, argv 0 = .agg #[.slice A0 n0 c0, .int .u8 (N0 : Int)] ∧ argv 1 = .agg #[.slice A1 n1 c1, .int .u8 (N1 : Int)] := ⟨fun i => if i = 0 then .agg #[.slice A0 n0 c0, .int .u8 (N0 : Int)] else .agg #[.slice A1 n1 c1, .int .u8 (N1 : Int)], rfl, rfl⟩
  rw [← hff0] at HM0
  rw [← hff1] at HM1
  go_wp2
  refine wp_region_any (by kernel_rfl) ?_
  change wpAny _ _ _ _ _ _ _ (World.drew _)
  refine wpAny_named (fun a0 ha0 => ?_)
  refine wpAny_inv (fun l a' w' => ∃ (bl bc ba bs : Nat → Bool) (vl vc vp : Nat → Value) (D : MkD), l = #[bl 0, bc 0, bl 1, bc 1, ba 0, ba 1, bs 0, bs 1] ∧ a' = ((((((a0.put (some 13) (vl 0)).put (some 15) (vl 1)).put (some 14) (vc 0)).put (some 16) (vc 1)).put (some 6) (vp 0)).put (some 7) (vp 1)) ∧ (∀ i, bl i = true → vl i = argv i) ∧ Mks w2 w' ff bc ba bs vc vp D) ?_ ?_ _ _ _ _ ⟨fun _ => false, fun _ => false, fun _ => false, fun _ => false, fun _ => undef, fun _ => undef, fun _ => undef, ⟨fun _ => none, fun _ => 0, fun _ => 0, fun _ => 0, fun _ => 0⟩, rfl, by subst ha0; rfl, (fun _ h => by cases h), Mks.start (Below.refl _ _).drew _ _ _ _⟩ (by rfl) (by decide)
  rotate_left
  · rintro l a' w' ⟨bl, bc, ba, bs, vl, vc, vp, D, rfl, rfl, hv, hM⟩ i hi
    obtain ⟨h0, o, ho, hall⟩ := mem_ready.1 hi
    have hlt : i < 8 := (Array.getElem?_eq_some_iff.1 ho).1
    clear hi
    rcases (by omega : i = 0 ∨ i = 1 ∨ i = 2 ∨ i = 3 ∨ i = 4 ∨ i = 5 ∨ i = 6 ∨ i = 7) with rfl | rfl | rfl | rfl | rfl | rfl | rfl | rfl
    · replace h0 : bl 0 = false := h0
      have ho' := (Option.some.inj ho).symm
      subst ho'
      clear hall ho
      have hx := lid' (X0.out.below (by omega) hM.bel)
      obtain ⟨x0, x1, xn⟩ := xb2 hx
      subst ha0
      refine wpOp_step rfl (fun K hK => ?_)
      go_simp
      refine hK _ _ ⟨up1 bl 0 true, bc, ba, bs, up1 vl 0 (.agg #[.slice A0 n0 c0, .int .u8 (N0 : Int)]), vc, vp, D, rfl, rfl, fun q hq => ?_, hM⟩
      by_cases e : q = 0
      · subst e; rw [up1_at]; exact hav0.symm
      · rw [up1_ne _ _ e] at hq ⊢; exact hv q hq
    · replace h0 : bc 0 = false := h0
      have ho' := (Option.some.inj ho).symm
      subst ho'
      have k0 : bl 0 = true := hall ⟨0, .data⟩ (by simp) rfl
      have hvl := hv 0 k0
      rw [hav0] at hvl
      clear hall ho
      subst ha0
      generalize hvv : vl 0 = vv at *
      refine wpOp_step rfl (fun K hK => ?_)
      subst hvl
      go_simp
      go_at_call 51
      with_reducible refine (HM0.out w' hM.bel).mono ?_
      rintro e w9 ⟨⟨A9, m9, c9, r9, rfl, d9, f9⟩, b9⟩
      go_simp
      refine hK _ _ ⟨bl, up1 bc 0 true, ba, bs, vl, up1 vc 0 (.agg #[.slice A9 m9 c9, .int .i64 (r9 : Int)]), vp, _, rfl, by rw [hvv]; rfl, hv, hM.call 0 h0 d9 f9 b9⟩
    · replace h0 : bl 1 = false := h0
      have ho' := (Option.some.inj ho).symm
      subst ho'
      clear hall ho
      have hx := lid' (X1.out.below (by omega) hM.bel)
      obtain ⟨x0, x1, xn⟩ := xb2 hx
      subst ha0
      refine wpOp_step rfl (fun K hK => ?_)
      go_simp
      refine hK _ _ ⟨up1 bl 1 true, bc, ba, bs, up1 vl 1 (.agg #[.slice A1 n1 c1, .int .u8 (N1 : Int)]), vc, vp, D, rfl, rfl, fun q hq => ?_, hM⟩
      by_cases e : q = 1
      · subst e; rw [up1_at]; exact hav1.symm
      · rw [up1_ne _ _ e] at hq ⊢; exact hv q hq
    · replace h0 : bc 1 = false := h0
      have ho' := (Option.some.inj ho).symm
      subst ho'
      have k2 : bl 1 = true := hall ⟨2, .data⟩ (by simp) rfl
      have hvl := hv 1 k2
      rw [hav1] at hvl
      clear hall ho
      subst ha0
      generalize hvv : vl 1 = vv at *
      refine wpOp_step rfl (fun K hK => ?_)
      subst hvl
      go_simp
      go_at_call 51
      with_reducible refine (HM1.out w' hM.bel).mono ?_
      rintro e w9 ⟨⟨A9, m9, c9, r9, rfl, d9, f9⟩, b9⟩
      go_simp
      refine hK _ _ ⟨bl, up1 bc 1 true, ba, bs, vl, up1 vc 1 (.agg #[.slice A9 m9 c9, .int .i64 (r9 : Int)]), vp, _, rfl, by rw [hvv]; rfl, hv, hM.call 1 h0 d9 f9 b9⟩
    · replace h0 : ba 0 = false := h0
      have ho' := (Option.some.inj ho).symm
      subst ho'
      clear hall ho
      subst ha0
      refine wpOp_step rfl (fun K hK => ?_)
      go_simp
      exact hK _ _ ⟨bl, bc, up1 ba 0 true, bs, vl, vc, up1 vp 0 (.pointer (some ⟨w'.heap.size, 0, none⟩)), _, rfl, rfl, hv, hM.laid 0 h0 24⟩
    · replace h0 : ba 1 = false := h0
      have ho' := (Option.some.inj ho).symm
      subst ho'
      clear hall ho
      subst ha0
      refine wpOp_step rfl (fun K hK => ?_)
      go_simp
      exact hK _ _ ⟨bl, bc, up1 ba 1 true, bs, vl, vc, up1 vp 1 (.pointer (some ⟨w'.heap.size, 0, none⟩)), _, rfl, rfl, hv, hM.laid 1 h0 24⟩
    · replace h0 : bs 0 = false := h0
      have ho' := (Option.some.inj ho).symm
      subst ho'
      have k4 : ba 0 = true := hall ⟨4, .data⟩ (by simp) rfl
      have k1 : bc 0 = true := hall ⟨1, .data⟩ (by simp) rfl
      have hc := hM.pc 0 k1
      have hp := hM.pa 0 k4
      have hz := hM.pz 0 k4 h0
      have hS := hM.stored 0 k1 k4 h0
      obtain ⟨z0, z1⟩ := hz 0 (by omega)
      obtain ⟨y0, y1⟩ := hz 1 (by omega)
      clear hall ho
      subst ha0
      generalize hvc : vc 0 = cc at *
      generalize hvp : vp 0 = pp at *
      subst hc
      subst hp
      refine wpOp_step rfl (fun K hK => ?_)
      go_simp
      exact hK _ _ ⟨bl, bc, ba, up1 bs 0 true, vl, vc, vp, D, rfl, by rw [hvc, hvp]; rfl, hv, hS⟩
    · replace h0 : bs 1 = false := h0
      have ho' := (Option.some.inj ho).symm
      subst ho'
      have k5 : ba 1 = true := hall ⟨5, .data⟩ (by simp) rfl
      have k3 : bc 1 = true := hall ⟨3, .data⟩ (by simp) rfl
      have hc := hM.pc 1 k3
      have hp := hM.pa 1 k5
      have hz := hM.pz 1 k5 h0
      have hS := hM.stored 1 k3 k5 h0
      obtain ⟨z0, z1⟩ := hz 0 (by omega)
      obtain ⟨y0, y1⟩ := hz 1 (by omega)
      clear hall ho
      subst ha0
      generalize hvc : vc 1 = cc at *
      generalize hvp : vp 1 = pp at *
      subst hc
      subst hp
      refine wpOp_step rfl (fun K hK => ?_)
      go_simp
      exact hK _ _ ⟨bl, bc, ba, up1 bs 1 true, vl, vc, vp, D, rfl, by rw [hvc, hvp]; rfl, hv, hS⟩
  · rintro l a' w' ⟨bl, bc, ba, bs, vl, vc, vp, D, rfl, rfl, hv, hM⟩ hr
    have t0 : bl 0 = true := must_run (i := 0) hr rfl (by simp [Region.binds])
    have t1 : bc 0 = true := must_run (i := 1) hr rfl (by simp [Region.binds, t0])
    have t2 : bl 1 = true := must_run (i := 2) hr rfl (by simp [Region.binds, t0, t1])
    have t3 : bc 1 = true := must_run (i := 3) hr rfl (by simp [Region.binds, t0, t1, t2])
    have t4 : ba 0 = true := must_run (i := 4) hr rfl (by simp [Region.binds, t0, t1, t2, t3])
    have t5 : ba 1 = true := must_run (i := 5) hr rfl (by simp [Region.binds, t0, t1, t2, t3, t4])
    have t6 : bs 0 = true := must_run (i := 6) hr rfl (by simp [Region.binds, t0, t1, t2, t3, t4, t5])
    have t7 : bs 1 = true := must_run (i := 7) hr rfl (by simp [Region.binds, t0, t1, t2, t3, t4, t5, t6])
    have hb9 := lid' hM.bel
    have D_0 := lid' (hM.dn 0 t1)
    have X_0 := lid' (hM.ps 0 t6)
    have hp0 := hM.pa 0 t4
    have D_1 := lid' (hM.dn 1 t3)
    have X_1 := lid' (hM.ps 1 t7)
    have hp1 := hM.pa 1 t5
    have hn01 := hM.ne 0 1 (by omega) t4 t5
    clear hM hr
    subst ha0
    generalize D.A 0 = A_0 at *
    generalize D.m 0 = m_0 at *
    generalize D.c 0 = c_0 at *
    generalize D.r 0 = r_0 at *
    generalize D.h 0 = h_0 at *
    generalize vp 0 = p_0 at *
    subst hp0
    generalize D.A 1 = A_1 at *
    generalize D.m 1 = m_1 at *
    generalize D.c 1 = c_1 at *
    generalize D.r 1 = r_1 at *
    generalize D.h 1 = h_1 at *
    generalize vp 1 = p_1 at *
    subst hp1
    rw [hff0] at D_0
    rw [hff1] at D_1
    have HB3 := btr HB2 hb9.out HB2.out.size
    have HIN3 := rin HIN2 hb9.out
    obtain ⟨p, q, s, hp, hq, hs, ip, is, ib⟩ := inc_bools D_0.out.d D_1.out.d
    have hself := inc_self D_0.out.d D_1.out.d
    obtain ⟨g, hg⟩ : ∃ g, (fun x => fa x && fb x) = g := ⟨_, rfl⟩
    rw [hg] at ip is hself
    have HP := lid' hp
    have HQ := lid' hq
    have HS := lid' hs
    have HG := lid' hg
    have LG : Hid (Low 6 g) := show Low 6 g by rw [← hg]; exact Low.bin and HL0.out HL1.out
    have IP : Hid (BIff p (g = fa)) := lid' ip
    have IS : Hid (BIff s (g = fun _ => false)) := lid' is
    have IB : Hid (BIff (p && q) (fa = fb)) := lid' ib
    have HSELF := lid' hself
    clear hp hq hs hg ip is ib hself hb9 hv HM0 HM1 hff0 hff1 hav0 hav1 HB2 HIN2 X0 X1
    obtain ⟨x0, x1, xn0⟩ := xb2 X_0
    obtain ⟨y0, y1, yn0⟩ := xb2 X_1
    go_wp2_with fail
    with_reducible refine (six_and D_0 D_1 HL0 HL1 HIN3 HG).mono ?_
    rintro e w4 ⟨⟨A4, m4, c4, r4, rfl, d4, _⟩, b4⟩
    have a4 := ab2 w4 (.cells #[.slice A4 m4 c4, .int .i64 (r4 : Int)] 24)
    have b4a := b4.trans (a4.mono b4.size)
    have S4 : Hid (IncS w (w4.alloc (.cells #[.slice A4 m4 c4, .int .i64 (r4 : Int)] 24)) h_0 h_1 w4.heap.size A_0 m_0 c_0 r_0 A_1 m_1 c_1 r_1 A4 m4 c4 r4 fa fb g) := ⟨HB3.out.trans (b4a.mono HB3.out.size), HIN3.out.below b4a, X_0.out.below (by omega) b4a, X_1.out.below (by omega) b4a, (nb2 w4 _ _ _).out, D_0.out.below b4a, D_1.out.below b4a, d4.below a4⟩
    have n04 : ¬ h_0 = w4.heap.size := by have := b4.size; omega
    have n14 : ¬ h_1 = w4.heap.size := by have := b4.size; omega
    clear x0 x1 y0 y1 X_0 X_1 D_0 D_1 HB3 HIN3 a4 b4 b4a d4
    obtain ⟨x00, x01, x0n⟩ := xb2 (lid' S4.out.b0)
    obtain ⟨x10, x11, x1n⟩ := xb2 (lid' S4.out.b1)
    obtain ⟨x20, x21, x2n⟩ := xb2 (lid' S4.out.b2)
    go_wp2_with fail
    generalize hw4 : w4.alloc (.cells #[.slice A4 m4 c4, .int .i64 (r4 : Int)] 24) = w4' at *
    generalize w4.heap.size = g4 at *
    clear hw4
    with_reducible refine (six_within p (lid' S4.out.d0) (lid' S4.out.d1) HL0 HL1 (lid' S4.out.ins) HP).mono ?_
    rintro e w5 ⟨rfl, b5⟩
    have S5 := lid' (S4.out.below b5)
    clear x00 x01 x10 x11 x20 x21 b5 S4
    rcases p with _ | _
    · have hbq : (false && q) = false := rfl
      rw [hbq] at IB
      obtain ⟨z00, z01, z0n⟩ := xb2 (lid' S5.out.b0)
      obtain ⟨z10, z11, z1n⟩ := xb2 (lid' S5.out.b1)
      obtain ⟨z20, z21, z2n⟩ := xb2 (lid' S5.out.b2)
      go_wp2
      go_region_held3 (fun w' => w'.cell? ⟨h_0, 0, none⟩ = some (.slice A_0 m_0 c_0) ∧ w'.cell? ⟨h_0, 1, none⟩ = some (.int .i64 (r_0 : Int)) ∧ w'.cell? ⟨h_1, 0, none⟩ = some (.slice A_1 m_1 c_1) ∧ w'.cell? ⟨h_1, 1, none⟩ = some (.int .i64 (r_1 : Int)) ∧ w'.cell? ⟨g4, 0, none⟩ = some (.slice A4 m4 c4) ∧ w'.cell? ⟨g4, 1, none⟩ = some (.int .i64 (r4 : Int))) (first | (refine ⟨?_, ?_, ?_, ?_, ?_, ?_⟩ <;> (with_reducible assumption)) | go_keep) ((first
      | (have _kq := T5; go_at_call 31; (with_reducible refine (six_within true (lid' T5.out.d2) (lid' T5.out.d1) LG HL1 (lid' T5.out.ins) (lid' (decide_eq_true HSELF.out))).mono ?_); rintro e v6 ⟨rfl, bv6⟩; have T6 := lid' (T5.out.below bv6); obtain ⟨T6x00, T6x01, _⟩ := xb2 (lid' T6.out.b0); obtain ⟨T6x10, T6x11, _⟩ := xb2 (lid' T6.out.b1); obtain ⟨T6x20, T6x21, _⟩ := xb2 (lid' T6.out.b2); clear bv6)
      | (have _kq := T4; go_at_call 24; (with_reducible refine (same_dn (lid' T4.out.d0) (lid' T4.out.d1) rfl rfl false (BIff.hid IB)).mono ?_); rintro e v5 ⟨rfl, bv5⟩; have T5 := lid' (T4.out.below bv5); obtain ⟨T5x00, T5x01, _⟩ := xb2 (lid' T5.out.b0); obtain ⟨T5x10, T5x11, _⟩ := xb2 (lid' T5.out.b1); obtain ⟨T5x20, T5x21, _⟩ := xb2 (lid' T5.out.b2); clear bv5)
      | (have _kq := T3; go_at_call 24; (with_reducible refine (same_dn (w := v3) (R' := 0) (lid' T3.out.d2) (lid' (dn_false3 v3)) rfl rfl s (BIff.hid IS)).mono ?_); rintro e v4 ⟨rfl, bv4⟩; have T4 := lid' (T3.out.below bv4); obtain ⟨T4x00, T4x01, _⟩ := xb2 (lid' T4.out.b0); obtain ⟨T4x10, T4x11, _⟩ := xb2 (lid' T4.out.b1); obtain ⟨T4x20, T4x21, _⟩ := xb2 (lid' T4.out.b2); clear bv4)
      | (have _kq := T2; go_at_call 52; (with_reducible refine (constant_nil3 v2).mono ?_); rintro e v3 ⟨rfl, bv3⟩; have T3 := lid' (T2.out.below bv3); obtain ⟨T3x00, T3x01, _⟩ := xb2 (lid' T3.out.b0); obtain ⟨T3x10, T3x11, _⟩ := xb2 (lid' T3.out.b1); obtain ⟨T3x20, T3x21, _⟩ := xb2 (lid' T3.out.b2); clear bv3)
      | (have _kq := T1; go_at_call 33; (with_reducible refine (six_disjoint s (lid' T1.out.d0) (lid' T1.out.d1) HL0 HL1 (lid' T1.out.ins) HS).mono ?_); rintro e v2 ⟨rfl, bv2⟩; have T2 := lid' (T1.out.below bv2); obtain ⟨T2x00, T2x01, _⟩ := xb2 (lid' T2.out.b0); obtain ⟨T2x10, T2x11, _⟩ := xb2 (lid' T2.out.b1); obtain ⟨T2x20, T2x21, _⟩ := xb2 (lid' T2.out.b2); clear bv2)
      | (go_at_call 24; (with_reducible refine (same_dn (rdn (lid' S5.out.d2) (Below.refl _ _).drew) (rdn (lid' S5.out.d0) (Below.refl _ _).drew) rfl rfl false (BIff.hid IP)).mono ?_); rintro e v1 ⟨rfl, bv1⟩; have T1 := lid' (S5.out.below' bv1); obtain ⟨T1x00, T1x01, _⟩ := xb2 (lid' T1.out.b0); obtain ⟨T1x10, T1x11, _⟩ := xb2 (lid' T1.out.b1); obtain ⟨T1x20, T1x21, _⟩ := xb2 (lid' T1.out.b2); clear bv1)))
      all_goals (go_wp2; go_ret; exact ⟨rfl, T6.out.bel⟩)
    · have hbq : (true && q) = q := rfl
      rw [hbq] at IB
      obtain ⟨z00, z01, z0n⟩ := xb2 (lid' S5.out.b0)
      obtain ⟨z10, z11, z1n⟩ := xb2 (lid' S5.out.b1)
      obtain ⟨z20, z21, z2n⟩ := xb2 (lid' S5.out.b2)
      go_wp2_with fail
      with_reducible refine (six_within q (lid' S5.out.d1) (lid' S5.out.d0) HL1 HL0 (lid' S5.out.ins) HQ).mono ?_
      rintro e w6 ⟨rfl, b6⟩
      have S6 := lid' (S5.out.below b6)
      clear z00 z01 z10 z11 z20 z21 b6 S5
      obtain ⟨z00, z01, z0n⟩ := xb2 (lid' S6.out.b0)
      obtain ⟨z10, z11, z1n⟩ := xb2 (lid' S6.out.b1)
      obtain ⟨z20, z21, z2n⟩ := xb2 (lid' S6.out.b2)
      go_wp2
      go_region_held3 (fun w' => w'.cell? ⟨h_0, 0, none⟩ = some (.slice A_0 m_0 c_0) ∧ w'.cell? ⟨h_0, 1, none⟩ = some (.int .i64 (r_0 : Int)) ∧ w'.cell? ⟨h_1, 0, none⟩ = some (.slice A_1 m_1 c_1) ∧ w'.cell? ⟨h_1, 1, none⟩ = some (.int .i64 (r_1 : Int)) ∧ w'.cell? ⟨g4, 0, none⟩ = some (.slice A4 m4 c4) ∧ w'.cell? ⟨g4, 1, none⟩ = some (.int .i64 (r4 : Int))) (first | (refine ⟨?_, ?_, ?_, ?_, ?_, ?_⟩ <;> (with_reducible assumption)) | go_keep) ((first
      | (have _kq := T5; go_at_call 31; (with_reducible refine (six_within true (lid' T5.out.d2) (lid' T5.out.d1) LG HL1 (lid' T5.out.ins) (lid' (decide_eq_true HSELF.out))).mono ?_); rintro e v6 ⟨rfl, bv6⟩; have T6 := lid' (T5.out.below bv6); obtain ⟨T6x00, T6x01, _⟩ := xb2 (lid' T6.out.b0); obtain ⟨T6x10, T6x11, _⟩ := xb2 (lid' T6.out.b1); obtain ⟨T6x20, T6x21, _⟩ := xb2 (lid' T6.out.b2); clear bv6)
      | (have _kq := T4; go_at_call 24; (with_reducible refine (same_dn (lid' T4.out.d0) (lid' T4.out.d1) rfl rfl q (BIff.hid IB)).mono ?_); rintro e v5 ⟨rfl, bv5⟩; have T5 := lid' (T4.out.below bv5); obtain ⟨T5x00, T5x01, _⟩ := xb2 (lid' T5.out.b0); obtain ⟨T5x10, T5x11, _⟩ := xb2 (lid' T5.out.b1); obtain ⟨T5x20, T5x21, _⟩ := xb2 (lid' T5.out.b2); clear bv5)
      | (have _kq := T3; go_at_call 24; (with_reducible refine (same_dn (w := v3) (R' := 0) (lid' T3.out.d2) (lid' (dn_false3 v3)) rfl rfl s (BIff.hid IS)).mono ?_); rintro e v4 ⟨rfl, bv4⟩; have T4 := lid' (T3.out.below bv4); obtain ⟨T4x00, T4x01, _⟩ := xb2 (lid' T4.out.b0); obtain ⟨T4x10, T4x11, _⟩ := xb2 (lid' T4.out.b1); obtain ⟨T4x20, T4x21, _⟩ := xb2 (lid' T4.out.b2); clear bv4)
      | (have _kq := T2; go_at_call 52; (with_reducible refine (constant_nil3 v2).mono ?_); rintro e v3 ⟨rfl, bv3⟩; have T3 := lid' (T2.out.below bv3); obtain ⟨T3x00, T3x01, _⟩ := xb2 (lid' T3.out.b0); obtain ⟨T3x10, T3x11, _⟩ := xb2 (lid' T3.out.b1); obtain ⟨T3x20, T3x21, _⟩ := xb2 (lid' T3.out.b2); clear bv3)
      | (have _kq := T1; go_at_call 33; (with_reducible refine (six_disjoint s (lid' T1.out.d0) (lid' T1.out.d1) HL0 HL1 (lid' T1.out.ins) HS).mono ?_); rintro e v2 ⟨rfl, bv2⟩; have T2 := lid' (T1.out.below bv2); obtain ⟨T2x00, T2x01, _⟩ := xb2 (lid' T2.out.b0); obtain ⟨T2x10, T2x11, _⟩ := xb2 (lid' T2.out.b1); obtain ⟨T2x20, T2x21, _⟩ := xb2 (lid' T2.out.b2); clear bv2)
      | (go_at_call 24; (with_reducible refine (same_dn (rdn (lid' S6.out.d2) (Below.refl _ _).drew) (rdn (lid' S6.out.d0) (Below.refl _ _).drew) rfl rfl true (BIff.hid IP)).mono ?_); rintro e v1 ⟨rfl, bv1⟩; have T1 := lid' (S6.out.below' bv1); obtain ⟨T1x00, T1x01, _⟩ := xb2 (lid' T1.out.b0); obtain ⟨T1x10, T1x11, _⟩ := xb2 (lid' T1.out.b1); obtain ⟨T1x20, T1x21, _⟩ := xb2 (lid' T1.out.b2); clear bv1)))
      all_goals (go_wp2; go_ret; exact ⟨rfl, T6.out.bel⟩)

end Go.Proofs.YtpeahjfkiehniaaDoor
