/-
  DiagramCounts: the counts of a set and its complement add up to 2^n, those of a union and an intersection to those of the two sets; a count over one condition more is twice as large. (Written by lcnt.py.)
-/
import Derived.Test.YtpeahjfkiehniaaDoorMk
import Derived.Test.YtpeahjfkiehniaaDoorMi
import Derived.Test.YtpeahjfkiehniaaDoorMq
import Derived.Test.YtpeahjfkiehniaaDoorMr
namespace Go.Proofs.YtpeahjfkiehniaaDoor
open Go.RowKit Dg St
attribute [local go_sem ↓] Go.wp_at_zero Go.wp_at_succ

theorem rnum {w w' : World} {v : Value} {N : Nat} (h : Hid (Nn.Num w v N)) (b : Below w.heap.size w w') : Hid (Nn.Num w' v N) := Lib.hid (h.out.below b)
/-- numbers of at most two to the 70 -/
def Lt70 (N : Nat) : Prop := N < 1180591620717411303424
theorem Lt70.dg {N : Nat} (h : Lt70 N) : (Nn.Nt.dg N).length ≤ 1024 := Nat.le_trans (Nn.Nt.dg_length_le (k := 3) (by unfold Lt70 at h; omega)) (by omega)
theorem num_add {w : World} {v u : Value} {a b : Nat} (N : Nat) (hv : Hid (Nn.Num w v a)) (hu : Hid (Nn.Num w u b)) (hN : Hid (a + b = N)) (hl : Lt70 N) :
    Calls Tryd.prog 55 #[v, u] w fun e w' => (∃ x, e = .returned (.tuple #[x, .int .i64 0]) ∧ Nn.Num w' x N) ∧ Below w.heap.size w w' := by
  obtain ⟨A, c, rfl, _, hr⟩ := hv.out
  obtain ⟨A', c', rfl, _, hr'⟩ := hu.out
  have hN' := hN.out
  have la : Lt70 a := by unfold Lt70 at *; omega
  have lb : Lt70 b := by unfold Lt70 at *; omega
  refine (Nn.add_ok a b c c' A A' w hr hr' la.dg lb.dg).mono ?_
  rintro e w' ⟨x, rfl, h, hb⟩
  have e1 : Nn.lim (a + b) = N := by unfold Nn.lim; rw [hN', if_pos hl.dg]
  have e2 : Nn.limE (a + b) = 0 := by unfold Nn.limE; rw [hN', if_pos hl.dg]
  rw [e1] at h
  rw [e2]
  exact ⟨⟨x, rfl, h⟩, hb⟩
theorem six_countX {w : World} {A0 : Option Addr} {m0 c0 r0 : Nat} {fa : Cfg → Bool} (d N : Nat) (X : Int) (hX : X = (d : Int)) (h0 : Hid (Dn w A0 m0 c0 r0 fa)) (l0 : Hid (Low 6 fa)) (hd : 6 ≤ d) (hd64 : d ≤ 64) (hN : Hid (cnt d fa = N)) :
    Calls Tryd.prog 39 #[.agg #[.slice A0 m0 c0, .int .i64 (r0 : Int)], .int .i64 X] w fun e w' => CtOk w w' N e := by
  subst hX
  exact six_count d N h0 l0 hd hd64 hN
theorem num_of {w : World} (N : Nat) (hN : Hid (N < 18446744073709551616)) :
    Calls Tryd.prog 57 #[.int .u64 (N : Int)] w fun e w' => (∃ x, e = .returned x ∧ Nn.Num w' x N) ∧ Below w.heap.size w w' := by
  refine (Nn.of_64 N w hN).mono ?_
  rintro e w' ⟨x, rfl, h, hb⟩
  exact ⟨⟨x, rfl, h⟩, hb⟩
theorem num_cmp {w : World} {v u : Value} {N : Nat} (hv : Hid (Nn.Num w v N)) (hu : Hid (Nn.Num w u N)) (hl : Lt70 N) :
    Calls Tryd.prog 56 #[v, u] w fun e w' => e = .returned (.int .i64 0) ∧ Below w.heap.size w w' := by
  obtain ⟨A, c, rfl, _, hr⟩ := hv.out
  obtain ⟨A', c', rfl, _, hr'⟩ := hu.out
  refine (Nn.compare_ok c c' hr hr' hl.dg hl.dg).mono ?_
  rintro e w' ⟨rfl, hq⟩
  exact ⟨by rw [Nn.cmpN_eq], hq.below _⟩

set_option maxHeartbeats 8000000 in
set_option maxRecDepth 100000 in
theorem lawCnt_walk (N0 n0 c0 : Nat) (A0 : Option Addr) (l0 : List Nat) (N1 n1 c1 : Nat) (A1 : Option Addr) (l1 : List Nat) (nb : Nat) (w : World) (hN0 : N0 < 256) (h80 : Hid (R8 w A0 n0 l0)) (hn0 : n0 ≤ 9223372036854775807) (hN1 : N1 < 256) (h81 : Hid (R8 w A1 n1 l1)) (hn1 : n1 ≤ 9223372036854775807) (hnb : nb < 256) (HIN : Hid (Ins w 0)) :
    Calls Tryd.prog 10 #[.agg #[.slice A0 n0 c0, .int .u8 (N0 : Int)], .agg #[.slice A1 n1 c1, .int .u8 (N1 : Int)], .int .u8 (nb : Int)] w fun e w' => e = .returned (.bool true) ∧ Below w.heap.size w w' := by
  have b1 := ab2 w (.cells #[.slice A0 n0 c0, .int .u8 (N0 : Int)] 54)
  have b2 := ab2 (w.alloc (.cells #[.slice A0 n0 c0, .int .u8 (N0 : Int)] 54)) (.cells #[.slice A1 n1 c1, .int .u8 (N1 : Int)] 54)
  have X0 := rb2 (nb2 w (.slice A0 n0 c0) (.int .u8 (N0 : Int)) 54) b2
  have X1 := nb2 (w.alloc (.cells #[.slice A0 n0 c0, .int .u8 (N0 : Int)] 54)) (.slice A1 n1 c1) (.int .u8 (N1 : Int)) 54
  rw [show (w.alloc (.cells #[.slice A0 n0 c0, .int .u8 (N0 : Int)] 54)).heap.size = w.heap.size + 1 by simp] at X1
  have HB0 := Lib.hid (b1.trans (b2.mono b1.size))
  have HIN0 := rin HIN HB0.out
  have hm0 : ∀ w', Below w.heap.size w w' → Calls Tryd.prog 51 #[.agg #[.slice A0 n0 c0, .int .u8 (N0 : Int)]] w' fun e w'' => DiaOk w' w'' (sset l0 N0) e :=
    fun w' hb => lmade_ok N0 n0 c0 A0 l0 w' (Lib.hid (h80.out.below hb)) hN0 hn0
  have hm1 : ∀ w', Below w.heap.size w w' → Calls Tryd.prog 51 #[.agg #[.slice A1 n1 c1, .int .u8 (N1 : Int)]] w' fun e w'' => DiaOk w' w'' (sset l1 N1) e :=
    fun w' hb => lmade_ok N1 n1 c1 A1 l1 w' (Lib.hid (h81.out.below hb)) hN1 hn1
  have HL0 := Lib.hid (sset_low l0 N0)
  have HL1 := Lib.hid (sset_low l1 N1)
  generalize sset l0 N0 = fa at *
  generalize sset l1 N1 = fb at *
  clear b1 b2
  go_enter Tryd.func10, Tryd.ntmps10
  go_wp2_with fail
  with_reducible refine (sanity_ok _ HIN0).mono ?_
  rintro e w2 ⟨rfl, b2⟩
  replace X0 := rb2 X0 b2
  replace X1 := rb2 X1 b2
  have HB2 := btr HB0 b2 HB0.out.size
  have HIN2 := rin HIN0 b2
  clear b2 HB0 HIN0
  have HM0 : Hid (∀ w', Below w2.heap.size w2 w' → Calls Tryd.prog 51 #[.agg #[.slice A0 n0 c0, .int .u8 (N0 : Int)]] w' fun e w'' => DiaOk w' w'' fa e) := fun w' hb => hm0 w' (HB2.out.trans (hb.mono HB2.out.size))
  have HM1 : Hid (∀ w', Below w2.heap.size w2 w' → Calls Tryd.prog 51 #[.agg #[.slice A1 n1 c1, .int .u8 (N1 : Int)]] w' fun e w'' => DiaOk w' w'' fb e) := fun w' hb => hm1 w' (HB2.out.trans (hb.mono HB2.out.size))
  clear hm0 hm1
  obtain ⟨ff, hff0, hff1⟩ : ∃ ff : Nat → Cfg → Bool, ff 0 = fa ∧ ff 1 = fb := ⟨fun i => if i = 0 then fa else fb, rfl, rfl⟩
  obtain ⟨argv, hav0, hav1⟩ : ∃ argv : Nat → Value, argv 0 = .agg #[.slice A0 n0 c0, .int .u8 (N0 : Int)] ∧ argv 1 = .agg #[.slice A1 n1 c1, .int .u8 (N1 : Int)] := ⟨fun i => if i = 0 then .agg #[.slice A0 n0 c0, .int .u8 (N0 : Int)] else .agg #[.slice A1 n1 c1, .int .u8 (N1 : Int)], rfl, rfl⟩
  rw [← hff0] at HM0
  rw [← hff1] at HM1
  go_wp2
  refine wp_region_any (by kernel_rfl) ?_
  change wpAny _ _ _ _ _ _ _ (World.drew _)
  refine wpAny_named (fun a0 ha0 => ?_)
  refine wpAny_inv (fun l a' w' => ∃ (bl bc ba bs : Nat → Bool) (vl vc vp : Nat → Value) (D : MkD), l = #[bl 0, bc 0, bl 1, bc 1, ba 0, ba 1, bs 0, bs 1] ∧ a' = ((((((a0.put (some 38) (vl 0)).put (some 40) (vl 1)).put (some 39) (vc 0)).put (some 41) (vc 1)).put (some 8) (vp 0)).put (some 9) (vp 1)) ∧ (∀ i, bl i = true → vl i = argv i) ∧ Mks w2 w' ff bc ba bs vc vp D) ?_ ?_ _ _ _ _ ⟨fun _ => false, fun _ => false, fun _ => false, fun _ => false, fun _ => undef, fun _ => undef, fun _ => undef, ⟨fun _ => none, fun _ => 0, fun _ => 0, fun _ => 0, fun _ => 0⟩, rfl, by subst ha0; rfl, (fun _ h => by cases h), Mks.start (Below.refl _ _).drew _ _ _ _⟩ (by rfl) (by decide)
  rotate_left
  · rintro l a' w' ⟨bl, bc, ba, bs, vl, vc, vp, D, rfl, rfl, hv, hM⟩ i hi
    obtain ⟨h0, o, ho, hall⟩ := mem_ready.1 hi
    have hlt : i < 8 := (Array.getElem?_eq_some_iff.1 ho).1
    clear hi
    rcases (by omega : i = 0 ∨ i = 1 ∨ i = 2 ∨ i = 3 ∨ i = 4 ∨ i = 5 ∨ i = 6 ∨ i = 7) with rfl | rfl | rfl | rfl | rfl | rfl | rfl | rfl
    · replace h0 : bl 0 = false := h0
      have ho' := (Option.some.inj ho).symm
      subst ho'
      clear hall ho
      have hx := lid' (X0.out.below (by omega) hM.bel)
      obtain ⟨x0, x1, xn⟩ := xb2 hx
      subst ha0
      refine wpOp_step rfl (fun K hK => ?_)
      go_simp
      refine hK _ _ ⟨up1 bl 0 true, bc, ba, bs, up1 vl 0 (.agg #[.slice A0 n0 c0, .int .u8 (N0 : Int)]), vc, vp, D, rfl, rfl, fun q hq => ?_, hM⟩
      by_cases e : q = 0
      · subst e; rw [up1_at]; exact hav0.symm
      · rw [up1_ne _ _ e] at hq ⊢; exact hv q hq
    · replace h0 : bc 0 = false := h0
      have ho' := (Option.some.inj ho).symm
      subst ho'
      have k0 : bl 0 = true := hall ⟨0, .data⟩ (by simp) rfl
      have hvl := hv 0 k0
      rw [hav0] at hvl
      clear hall ho
      subst ha0
      generalize hvv : vl 0 = vv at *
      refine wpOp_step rfl (fun K hK => ?_)
      subst hvl
      go_simp
      go_at_call 51
      with_reducible refine (HM0.out w' hM.bel).mono ?_
      rintro e w9 ⟨⟨A9, m9, c9, r9, rfl, d9, f9⟩, b9⟩
      go_simp
      refine hK _ _ ⟨bl, up1 bc 0 true, ba, bs, vl, up1 vc 0 (.agg #[.slice A9 m9 c9, .int .i64 (r9 : Int)]), vp, _, rfl, by rw [hvv]; rfl, hv, hM.call 0 h0 d9 f9 b9⟩
    · replace h0 : bl 1 = false := h0
      have ho' := (Option.some.inj ho).symm
      subst ho'
      clear hall ho
      have hx := lid' (X1.out.below (by omega) hM.bel)
      obtain ⟨x0, x1, xn⟩ := xb2 hx
      subst ha0
      refine wpOp_step rfl (fun K hK => ?_)
      go_simp
      refine hK _ _ ⟨up1 bl 1 true, bc, ba, bs, up1 vl 1 (.agg #[.slice A1 n1 c1, .int .u8 (N1 : Int)]), vc, vp, D, rfl, rfl, fun q hq => ?_, hM⟩
      by_cases e : q = 1
      · subst e; rw [up1_at]; exact hav1.symm
      · rw [up1_ne _ _ e] at hq ⊢; exact hv q hq
    · replace h0 : bc 1 = false := h0
      have ho' := (Option.some.inj ho).symm
      subst ho'
      have k2 : bl 1 = true := hall ⟨2, .data⟩ (by simp) rfl
      have hvl := hv 1 k2
      rw [hav1] at hvl
      clear hall ho
      subst ha0
      generalize hvv : vl 1 = vv at *
      refine wpOp_step rfl (fun K hK => ?_)
      subst hvl
      go_simp
      go_at_call 51
      with_reducible refine (HM1.out w' hM.bel).mono ?_
      rintro e w9 ⟨⟨A9, m9, c9, r9, rfl, d9, f9⟩, b9⟩
      go_simp
      refine hK _ _ ⟨bl, up1 bc 1 true, ba, bs, vl, up1 vc 1 (.agg #[.slice A9 m9 c9, .int .i64 (r9 : Int)]), vp, _, rfl, by rw [hvv]; rfl, hv, hM.call 1 h0 d9 f9 b9⟩
    · replace h0 : ba 0 = false := h0
      have ho' := (Option.some.inj ho).symm
      subst ho'
      clear hall ho
      subst ha0
      refine wpOp_step rfl (fun K hK => ?_)
      go_simp
      exact hK _ _ ⟨bl, bc, up1 ba 0 true, bs, vl, vc, up1 vp 0 (.pointer (some ⟨w'.heap.size, 0, none⟩)), _, rfl, rfl, hv, hM.laid 0 h0 24⟩
    · replace h0 : ba 1 = false := h0
      have ho' := (Option.some.inj ho).symm
      subst ho'
      clear hall ho
      subst ha0
      refine wpOp_step rfl (fun K hK => ?_)
      go_simp
      exact hK _ _ ⟨bl, bc, up1 ba 1 true, bs, vl, vc, up1 vp 1 (.pointer (some ⟨w'.heap.size, 0, none⟩)), _, rfl, rfl, hv, hM.laid 1 h0 24⟩
    · replace h0 : bs 0 = false := h0
      have ho' := (Option.some.inj ho).symm
      subst ho'
      have k4 : ba 0 = true := hall ⟨4, .data⟩ (by simp) rfl
      have k1 : bc 0 = true := hall ⟨1, .data⟩ (by simp) rfl
      have hc := hM.pc 0 k1
      have hp := hM.pa 0 k4
      have hz := hM.pz 0 k4 h0
      have hS := hM.stored 0 k1 k4 h0
      obtain ⟨z0, z1⟩ := hz 0 (by omega)
      obtain ⟨y0, y1⟩ := hz 1 (by omega)
      clear hall ho
      subst ha0
      generalize hvc : vc 0 = cc at *
      generalize hvp : vp 0 = pp at *
      subst hc
      subst hp
      refine wpOp_step rfl (fun K hK => ?_)
      go_simp
      exact hK _ _ ⟨bl, bc, ba, up1 bs 0 true, vl, vc, vp, D, rfl, by rw [hvc, hvp]; rfl, hv, hS⟩
    · replace h0 : bs 1 = false := h0
      have ho' := (Option.some.inj ho).symm
      subst ho'
      have k5 : ba 1 = true := hall ⟨5, .data⟩ (by simp) rfl
      have k3 : bc 1 = true := hall ⟨3, .data⟩ (by simp) rfl
      have hc := hM.pc 1 k3
      have hp := hM.pa 1 k5
      have hz := hM.pz 1 k5 h0
      have hS := hM.stored 1 k3 k5 h0
      obtain ⟨z0, z1⟩ := hz 0 (by omega)
      obtain ⟨y0, y1⟩ := hz 1 (by omega)
      clear hall ho
      subst ha0
      generalize hvc : vc 1 = cc at *
      generalize hvp : vp 1 = pp at *
      subst hc
      subst hp
      refine wpOp_step rfl (fun K hK => ?_)
      go_simp
      exact hK _ _ ⟨bl, bc, ba, up1 bs 1 true, vl, vc, vp, D, rfl, by rw [hvc, hvp]; rfl, hv, hS⟩
  · rintro l a' w' ⟨bl, bc, ba, bs, vl, vc, vp, D, rfl, rfl, hv, hM⟩ hr
    have t0 : bl 0 = true := must_run (i := 0) hr rfl (by simp [Region.binds])
    have t1 : bc 0 = true := must_run (i := 1) hr rfl (by simp [Region.binds, t0])
    have t2 : bl 1 = true := must_run (i := 2) hr rfl (by simp [Region.binds, t0, t1])
    have t3 : bc 1 = true := must_run (i := 3) hr rfl (by simp [Region.binds, t0, t1, t2])
    have t4 : ba 0 = true := must_run (i := 4) hr rfl (by simp [Region.binds, t0, t1, t2, t3])
    have t5 : ba 1 = true := must_run (i := 5) hr rfl (by simp [Region.binds, t0, t1, t2, t3, t4])
    have t6 : bs 0 = true := must_run (i := 6) hr rfl (by simp [Region.binds, t0, t1, t2, t3, t4, t5])
    have t7 : bs 1 = true := must_run (i := 7) hr rfl (by simp [Region.binds, t0, t1, t2, t3, t4, t5, t6])
    have hb9 := lid' hM.bel
    have D_0 := lid' (hM.dn 0 t1)
    have X_0 := lid' (hM.ps 0 t6)
    have hp0 := hM.pa 0 t4
    have D_1 := lid' (hM.dn 1 t3)
    have X_1 := lid' (hM.ps 1 t7)
    have hp1 := hM.pa 1 t5
    have hn01 := hM.ne 0 1 (by omega) t4 t5
    clear hM hr
    subst ha0
    generalize D.A 0 = A_0 at *
    generalize D.m 0 = m_0 at *
    generalize D.c 0 = c_0 at *
    generalize D.r 0 = r_0 at *
    generalize D.h 0 = h_0 at *
    generalize vp 0 = p_0 at *
    subst hp0
    generalize D.A 1 = A_1 at *
    generalize D.m 1 = m_1 at *
    generalize D.c 1 = c_1 at *
    generalize D.r 1 = r_1 at *
    generalize D.h 1 = h_1 at *
    generalize vp 1 = p_1 at *
    subst hp1
    rw [hff0] at D_0
    rw [hff1] at D_1
    have HB3 := btr HB2 hb9.out HB2.out.size
    have HIN3 := rin HIN2 hb9.out
    obtain ⟨K, hK⟩ : ∃ K, K = 6 + nb % 58 := ⟨_, rfl⟩
    obtain ⟨fn, hn⟩ : ∃ g, (fun x => !fa x) = g := ⟨_, rfl⟩
    obtain ⟨fd, hd⟩ : ∃ g, (fun x => fa x && fb x) = g := ⟨_, rfl⟩
    obtain ⟨fo, ho⟩ : ∃ g, (fun x => fa x || fb x) = g := ⟨_, rfl⟩
    have cc1 := cnt_not K fa
    have cc2 := cnt_sum K fa fb
    have cc3 := cnt_more (d := K) (HL0.out.mono (by omega))
    rw [hn] at cc1
    rw [hd, ho] at cc2
    have HGN := lid' hn
    have HGA := lid' hd
    have HGO := lid' ho
    have HLN : Hid (Low 6 fn) := show Low 6 fn by rw [← hn]; exact HL0.out.not
    have HLA : Hid (Low 6 fd) := show Low 6 fd by rw [← hd]; exact Low.bin and HL0.out HL1.out
    have HLO : Hid (Low 6 fo) := show Low 6 fo by rw [← ho]; exact Low.bin or HL0.out HL1.out
    clear hn hd ho
    generalize hP : cnt K fa = P at *
    have HP := lid' hP
    clear hP
    generalize hQ : cnt K fb = Q at *
    have HQ := lid' hQ
    clear hQ
    generalize hR : cnt K fn = R at *
    have HR := lid' hR
    clear hR
    generalize hU : cnt K fd = U at *
    have HU := lid' hU
    clear hU
    generalize hV : cnt K fo = V at *
    have HV := lid' hV
    clear hV
    generalize hM : cnt (K + 1) fa = M at *
    have HM := lid' hM
    clear hM
    have hE64 : 2 ^ K < 18446744073709551616 := Nat.lt_of_lt_of_le (Nat.pow_lt_pow_right (by omega) (show K < 64 by omega)) (by omega)
    have hsh := shl_one (V := K) (by omega)
    generalize hE : 2 ^ K = E at *
    obtain ⟨S, hS⟩ : ∃ S, S = P + Q := ⟨_, rfl⟩
    have HE1 : Hid (P + R = E) := lid' (by omega)
    have HS1 : Hid (P + Q = S) := lid' (by omega)
    have HS2 : Hid (U + V = S) := lid' (by omega)
    have HM2 : Hid (P + P = M) := lid' (by omega)
    have HE64 := lid' hE64
    have HQB : Hid (Q ≤ E) := lid' (by have := cnt_not K fb; rw [HQ.out, hE] at this; omega)
    have HLT : Lt70 E ∧ Lt70 S ∧ Lt70 M := by unfold Lt70; have := HQB.out; omega
    have q0 : (0 : Int) ≤ (nb : Int) := by omega
    have q1 : (nb : Int).tmod 58 = ((nb % 58 : Nat) : Int) := by rw [Int.tmod_eq_emod_of_nonneg q0]; omega
    have q2 : (6 : Int) + ((nb % 58 : Nat) : Int) = (K : Int) := by rw [hK]; push_cast; rfl
    have hKlo : 6 ≤ K := by omega
    have hKhi : K ≤ 63 := by omega
    have hNB : nb % 58 < 58 := by omega
    generalize nb % 58 = NB at *
    have HQ2 := lid' q2
    clear q2
    clear hK
    have q4 : IntKind.i64.wrap ((K : Int) + 1) = (K : Int) + 1 := by rw [IntKind.wrap_i64]; omega
    have q5 : IntKind.u64.wrap (K : Int) = (K : Int) := by rw [IntKind.wrap_u64]; omega
    obtain ⟨pX_0, qX_0, nX_0⟩ := xb2 X_0
    go_wp2_with fail
    clear pX_0 qX_0 nX_0
    rw [HQ2.out]
    with_reducible refine (six_not D_0 HGN).mono ?_
    rintro e w1_ ⟨⟨A1, m1, c1, r1, rfl, d1, _⟩, b1⟩
    replace HIN3 := rin HIN3 b1
    replace D_0 := rdn D_0 b1
    replace D_1 := rdn D_1 b1
    replace X_0 := rb2 X_0 b1
    replace X_1 := rb2 X_1 b1
    have Bl1 := btr HB3 b1 HB3.out.size
    clear HB3
    clear b1
    have Dn := lid' d1
    clear d1
    obtain ⟨pX_0, qX_0, nX_0⟩ := xb2 X_0
    obtain ⟨pX_1, qX_1, nX_1⟩ := xb2 X_1
    go_wp2_with fail
    clear pX_0 qX_0 nX_0 pX_1 qX_1 nX_1
    have ab := ab2 w1_ (.cells #[.slice A1 m1 c1, .int .i64 (r1 : Int)] 24)
    replace HIN3 := rin HIN3 ab
    replace D_0 := rdn D_0 ab
    replace D_1 := rdn D_1 ab
    replace X_0 := rb2 X_0 ab
    replace X_1 := rb2 X_1 ab
    replace Dn := rdn Dn ab
    have Xn := nb2 w1_ (.slice A1 m1 c1) (.int .i64 (r1 : Int)) 24
    have Bl2 := btr Bl1 ab Bl1.out.size
    clear Bl1
    clear ab
    generalize w1_.alloc (.cells #[.slice A1 m1 c1, .int .i64 (r1 : Int)] 24) = x2 at *
    generalize w1_.heap.size = g2 at *
    with_reducible refine (six_and D_0 D_1 HL0 HL1 HIN3 HGA).mono ?_
    rintro e w3_ ⟨⟨A3, m3, c3, r3, rfl, d3, _⟩, b3⟩
    replace HIN3 := rin HIN3 b3
    replace D_0 := rdn D_0 b3
    replace D_1 := rdn D_1 b3
    replace X_0 := rb2 X_0 b3
    replace X_1 := rb2 X_1 b3
    replace Dn := rdn Dn b3
    replace Xn := rb2 Xn b3
    have Bl3 := btr Bl2 b3 Bl2.out.size
    clear Bl2
    clear b3
    have Da := lid' d3
    clear d3
    obtain ⟨pX_0, qX_0, nX_0⟩ := xb2 X_0
    obtain ⟨pX_1, qX_1, nX_1⟩ := xb2 X_1
    go_wp2_with fail
    clear pX_0 qX_0 nX_0 pX_1 qX_1 nX_1
    have ab := ab2 w3_ (.cells #[.slice A3 m3 c3, .int .i64 (r3 : Int)] 24)
    replace HIN3 := rin HIN3 ab
    replace D_0 := rdn D_0 ab
    replace D_1 := rdn D_1 ab
    replace X_0 := rb2 X_0 ab
    replace X_1 := rb2 X_1 ab
    replace Dn := rdn Dn ab
    replace Xn := rb2 Xn ab
    replace Da := rdn Da ab
    have Xa := nb2 w3_ (.slice A3 m3 c3) (.int .i64 (r3 : Int)) 24
    have Bl4 := btr Bl3 ab Bl3.out.size
    clear Bl3
    clear ab
    generalize w3_.alloc (.cells #[.slice A3 m3 c3, .int .i64 (r3 : Int)] 24) = x4 at *
    generalize w3_.heap.size = g4 at *
    with_reducible refine (six_or D_0 D_1 HL0 HL1 HIN3 HGO).mono ?_
    rintro e w5_ ⟨⟨A5, m5, c5, r5, rfl, d5, _⟩, b5⟩
    replace HIN3 := rin HIN3 b5
    replace D_0 := rdn D_0 b5
    replace D_1 := rdn D_1 b5
    replace X_0 := rb2 X_0 b5
    replace X_1 := rb2 X_1 b5
    replace Dn := rdn Dn b5
    replace Xn := rb2 Xn b5
    replace Da := rdn Da b5
    replace Xa := rb2 Xa b5
    have Bl5 := btr Bl4 b5 Bl4.out.size
    clear Bl4
    clear b5
    have Do := lid' d5
    clear d5
    obtain ⟨pX_0, qX_0, nX_0⟩ := xb2 X_0
    go_wp2_with fail
    clear pX_0 qX_0 nX_0
    have ab := ab2 w5_ (.cells #[.slice A5 m5 c5, .int .i64 (r5 : Int)] 24)
    replace HIN3 := rin HIN3 ab
    replace D_0 := rdn D_0 ab
    replace D_1 := rdn D_1 ab
    replace X_0 := rb2 X_0 ab
    replace X_1 := rb2 X_1 ab
    replace Dn := rdn Dn ab
    replace Xn := rb2 Xn ab
    replace Da := rdn Da ab
    replace Xa := rb2 Xa ab
    replace Do := rdn Do ab
    have Xo := nb2 w5_ (.slice A5 m5 c5) (.int .i64 (r5 : Int)) 24
    have Bl6 := btr Bl5 ab Bl5.out.size
    clear Bl5
    clear ab
    generalize w5_.alloc (.cells #[.slice A5 m5 c5, .int .i64 (r5 : Int)] 24) = x6 at *
    generalize w5_.heap.size = g6 at *
    with_reducible refine (six_countX K P (K : Int) (by omega) D_0 HL0 (by omega) (by omega) HP).mono ?_
    rintro e w7_ ⟨⟨v7, rfl, nu7⟩, b7⟩
    replace HIN3 := rin HIN3 b7
    replace D_0 := rdn D_0 b7
    replace D_1 := rdn D_1 b7
    replace X_0 := rb2 X_0 b7
    replace X_1 := rb2 X_1 b7
    replace Dn := rdn Dn b7
    replace Xn := rb2 Xn b7
    replace Da := rdn Da b7
    replace Xa := rb2 Xa b7
    replace Do := rdn Do b7
    replace Xo := rb2 Xo b7
    have Bl7 := btr Bl6 b7 Bl6.out.size
    clear Bl6
    clear b7
    have Np := lid' nu7
    clear nu7
    obtain ⟨pX_1, qX_1, nX_1⟩ := xb2 X_1
    go_wp2_with fail
    clear pX_1 qX_1 nX_1
    with_reducible refine (six_countX K Q (K : Int) (by omega) D_1 HL1 (by omega) (by omega) HQ).mono ?_
    rintro e w8_ ⟨⟨v8, rfl, nu8⟩, b8⟩
    replace HIN3 := rin HIN3 b8
    replace D_0 := rdn D_0 b8
    replace D_1 := rdn D_1 b8
    replace X_0 := rb2 X_0 b8
    replace X_1 := rb2 X_1 b8
    replace Dn := rdn Dn b8
    replace Xn := rb2 Xn b8
    replace Da := rdn Da b8
    replace Xa := rb2 Xa b8
    replace Do := rdn Do b8
    replace Xo := rb2 Xo b8
    replace Np := rnum Np b8
    have Bl8 := btr Bl7 b8 Bl7.out.size
    clear Bl7
    clear b8
    have Nq := lid' nu8
    clear nu8
    obtain ⟨pXn, qXn, nXn⟩ := xb2 Xn
    go_wp2_with fail
    clear pXn qXn nXn
    with_reducible refine (six_countX K R (K : Int) (by omega) Dn HLN (by omega) (by omega) HR).mono ?_
    rintro e w9_ ⟨⟨v9, rfl, nu9⟩, b9⟩
    replace HIN3 := rin HIN3 b9
    replace D_0 := rdn D_0 b9
    replace D_1 := rdn D_1 b9
    replace X_0 := rb2 X_0 b9
    replace X_1 := rb2 X_1 b9
    replace Dn := rdn Dn b9
    replace Xn := rb2 Xn b9
    replace Da := rdn Da b9
    replace Xa := rb2 Xa b9
    replace Do := rdn Do b9
    replace Xo := rb2 Xo b9
    replace Np := rnum Np b9
    replace Nq := rnum Nq b9
    have Bl9 := btr Bl8 b9 Bl8.out.size
    clear Bl8
    clear b9
    have Nr := lid' nu9
    clear nu9
    obtain ⟨pXa, qXa, nXa⟩ := xb2 Xa
    go_wp2_with fail
    clear pXa qXa nXa
    with_reducible refine (six_countX K U (K : Int) (by omega) Da HLA (by omega) (by omega) HU).mono ?_
    rintro e w10_ ⟨⟨v10, rfl, nu10⟩, b10⟩
    replace HIN3 := rin HIN3 b10
    replace D_0 := rdn D_0 b10
    replace D_1 := rdn D_1 b10
    replace X_0 := rb2 X_0 b10
    replace X_1 := rb2 X_1 b10
    replace Dn := rdn Dn b10
    replace Xn := rb2 Xn b10
    replace Da := rdn Da b10
    replace Xa := rb2 Xa b10
    replace Do := rdn Do b10
    replace Xo := rb2 Xo b10
    replace Np := rnum Np b10
    replace Nq := rnum Nq b10
    replace Nr := rnum Nr b10
    have Bl10 := btr Bl9 b10 Bl9.out.size
    clear Bl9
    clear b10
    have Nu := lid' nu10
    clear nu10
    obtain ⟨pXo, qXo, nXo⟩ := xb2 Xo
    go_wp2_with fail
    clear pXo qXo nXo
    with_reducible refine (six_countX K V (K : Int) (by omega) Do HLO (by omega) (by omega) HV).mono ?_
    rintro e w11_ ⟨⟨v11, rfl, nu11⟩, b11⟩
    replace HIN3 := rin HIN3 b11
    replace D_0 := rdn D_0 b11
    replace D_1 := rdn D_1 b11
    replace X_0 := rb2 X_0 b11
    replace X_1 := rb2 X_1 b11
    replace Dn := rdn Dn b11
    replace Xn := rb2 Xn b11
    replace Da := rdn Da b11
    replace Xa := rb2 Xa b11
    replace Do := rdn Do b11
    replace Xo := rb2 Xo b11
    replace Np := rnum Np b11
    replace Nq := rnum Nq b11
    replace Nr := rnum Nr b11
    replace Nu := rnum Nu b11
    have Bl11 := btr Bl10 b11 Bl10.out.size
    clear Bl10
    clear b11
    have Nw := lid' nu11
    clear nu11
    obtain ⟨pX_0, qX_0, nX_0⟩ := xb2 X_0
    go_wp2_with fail
    clear pX_0 qX_0 nX_0
    with_reducible refine (six_countX (K + 1) M ((K : Int) + 1) (by omega) D_0 HL0 (by omega) (by omega) HM).mono ?_
    rintro e w12_ ⟨⟨v12, rfl, nu12⟩, b12⟩
    replace HIN3 := rin HIN3 b12
    replace D_0 := rdn D_0 b12
    replace D_1 := rdn D_1 b12
    replace X_0 := rb2 X_0 b12
    replace X_1 := rb2 X_1 b12
    replace Dn := rdn Dn b12
    replace Xn := rb2 Xn b12
    replace Da := rdn Da b12
    replace Xa := rb2 Xa b12
    replace Do := rdn Do b12
    replace Xo := rb2 Xo b12
    replace Np := rnum Np b12
    replace Nq := rnum Nq b12
    replace Nr := rnum Nr b12
    replace Nu := rnum Nu b12
    replace Nw := rnum Nw b12
    have Bl12 := btr Bl11 b12 Bl11.out.size
    clear Bl11
    clear b12
    have Nm := lid' nu12
    clear nu12
    go_wp2_with fail
    with_reducible refine (num_add E Np Nr HE1 HLT.1).mono ?_
    rintro e w13_ ⟨⟨v13, rfl, nu13⟩, b13⟩
    replace HIN3 := rin HIN3 b13
    replace D_0 := rdn D_0 b13
    replace D_1 := rdn D_1 b13
    replace X_0 := rb2 X_0 b13
    replace X_1 := rb2 X_1 b13
    replace Dn := rdn Dn b13
    replace Xn := rb2 Xn b13
    replace Da := rdn Da b13
    replace Xa := rb2 Xa b13
    replace Do := rdn Do b13
    replace Xo := rb2 Xo b13
    replace Np := rnum Np b13
    replace Nq := rnum Nq b13
    replace Nr := rnum Nr b13
    replace Nu := rnum Nu b13
    replace Nw := rnum Nw b13
    replace Nm := rnum Nm b13
    have Bl13 := btr Bl12 b13 Bl12.out.size
    clear Bl12
    clear b13
    have Nwhole := lid' nu13
    clear nu13
    go_wp2_with fail
    with_reducible refine (num_add S Np Nq HS1 HLT.2.1).mono ?_
    rintro e w14_ ⟨⟨v14, rfl, nu14⟩, b14⟩
    replace HIN3 := rin HIN3 b14
    replace D_0 := rdn D_0 b14
    replace D_1 := rdn D_1 b14
    replace X_0 := rb2 X_0 b14
    replace X_1 := rb2 X_1 b14
    replace Dn := rdn Dn b14
    replace Xn := rb2 Xn b14
    replace Da := rdn Da b14
    replace Xa := rb2 Xa b14
    replace Do := rdn Do b14
    replace Xo := rb2 Xo b14
    replace Np := rnum Np b14
    replace Nq := rnum Nq b14
    replace Nr := rnum Nr b14
    replace Nu := rnum Nu b14
    replace Nw := rnum Nw b14
    replace Nm := rnum Nm b14
    replace Nwhole := rnum Nwhole b14
    have Bl14 := btr Bl13 b14 Bl13.out.size
    clear Bl13
    clear b14
    have None := lid' nu14
    clear nu14
    go_wp2_with fail
    with_reducible refine (num_add S Nu Nw HS2 HLT.2.1).mono ?_
    rintro e w15_ ⟨⟨v15, rfl, nu15⟩, b15⟩
    replace HIN3 := rin HIN3 b15
    replace D_0 := rdn D_0 b15
    replace D_1 := rdn D_1 b15
    replace X_0 := rb2 X_0 b15
    replace X_1 := rb2 X_1 b15
    replace Dn := rdn Dn b15
    replace Xn := rb2 Xn b15
    replace Da := rdn Da b15
    replace Xa := rb2 Xa b15
    replace Do := rdn Do b15
    replace Xo := rb2 Xo b15
    replace Np := rnum Np b15
    replace Nq := rnum Nq b15
    replace Nr := rnum Nr b15
    replace Nu := rnum Nu b15
    replace Nw := rnum Nw b15
    replace Nm := rnum Nm b15
    replace Nwhole := rnum Nwhole b15
    replace None := rnum None b15
    have Bl15 := btr Bl14 b15 Bl14.out.size
    clear Bl14
    clear b15
    have Ntwo := lid' nu15
    clear nu15
    go_wp2_with fail
    with_reducible refine (num_add M Np Np HM2 HLT.2.2).mono ?_
    rintro e w16_ ⟨⟨v16, rfl, nu16⟩, b16⟩
    replace HIN3 := rin HIN3 b16
    replace D_0 := rdn D_0 b16
    replace D_1 := rdn D_1 b16
    replace X_0 := rb2 X_0 b16
    replace X_1 := rb2 X_1 b16
    replace Dn := rdn Dn b16
    replace Xn := rb2 Xn b16
    replace Da := rdn Da b16
    replace Xa := rb2 Xa b16
    replace Do := rdn Do b16
    replace Xo := rb2 Xo b16
    replace Np := rnum Np b16
    replace Nq := rnum Nq b16
    replace Nr := rnum Nr b16
    replace Nu := rnum Nu b16
    replace Nw := rnum Nw b16
    replace Nm := rnum Nm b16
    replace Nwhole := rnum Nwhole b16
    replace None := rnum None b16
    replace Ntwo := rnum Ntwo b16
    have Bl16 := btr Bl15 b16 Bl15.out.size
    clear Bl15
    clear b16
    have Ntwice := lid' nu16
    clear nu16
    go_wp2_with fail
    with_reducible refine (num_of E HE64).mono ?_
    rintro e w17_ ⟨⟨v17, rfl, nu17⟩, b17⟩
    replace HIN3 := rin HIN3 b17
    replace D_0 := rdn D_0 b17
    replace D_1 := rdn D_1 b17
    replace X_0 := rb2 X_0 b17
    replace X_1 := rb2 X_1 b17
    replace Dn := rdn Dn b17
    replace Xn := rb2 Xn b17
    replace Da := rdn Da b17
    replace Xa := rb2 Xa b17
    replace Do := rdn Do b17
    replace Xo := rb2 Xo b17
    replace Np := rnum Np b17
    replace Nq := rnum Nq b17
    replace Nr := rnum Nr b17
    replace Nu := rnum Nu b17
    replace Nw := rnum Nw b17
    replace Nm := rnum Nm b17
    replace Nwhole := rnum Nwhole b17
    replace None := rnum None b17
    replace Ntwo := rnum Ntwo b17
    replace Ntwice := rnum Ntwice b17
    have Bl17 := btr Bl16 b17 Bl16.out.size
    clear Bl16
    clear b17
    have Ne := lid' nu17
    clear nu17
    go_wp2_with fail
    with_reducible refine (num_cmp Nwhole Ne HLT.1).mono ?_
    rintro e w18_ ⟨rfl, b18⟩
    replace HIN3 := rin HIN3 b18
    replace D_0 := rdn D_0 b18
    replace D_1 := rdn D_1 b18
    replace X_0 := rb2 X_0 b18
    replace X_1 := rb2 X_1 b18
    replace Dn := rdn Dn b18
    replace Xn := rb2 Xn b18
    replace Da := rdn Da b18
    replace Xa := rb2 Xa b18
    replace Do := rdn Do b18
    replace Xo := rb2 Xo b18
    replace Np := rnum Np b18
    replace Nq := rnum Nq b18
    replace Nr := rnum Nr b18
    replace Nu := rnum Nu b18
    replace Nw := rnum Nw b18
    replace Nm := rnum Nm b18
    replace Nwhole := rnum Nwhole b18
    replace None := rnum None b18
    replace Ntwo := rnum Ntwo b18
    replace Ntwice := rnum Ntwice b18
    replace Ne := rnum Ne b18
    have Bl18 := btr Bl17 b18 Bl17.out.size
    clear Bl17
    clear b18
    go_wp2_with fail
    with_reducible refine (num_cmp None Ntwo HLT.2.1).mono ?_
    rintro e w19_ ⟨rfl, b19⟩
    replace HIN3 := rin HIN3 b19
    replace D_0 := rdn D_0 b19
    replace D_1 := rdn D_1 b19
    replace X_0 := rb2 X_0 b19
    replace X_1 := rb2 X_1 b19
    replace Dn := rdn Dn b19
    replace Xn := rb2 Xn b19
    replace Da := rdn Da b19
    replace Xa := rb2 Xa b19
    replace Do := rdn Do b19
    replace Xo := rb2 Xo b19
    replace Np := rnum Np b19
    replace Nq := rnum Nq b19
    replace Nr := rnum Nr b19
    replace Nu := rnum Nu b19
    replace Nw := rnum Nw b19
    replace Nm := rnum Nm b19
    replace Nwhole := rnum Nwhole b19
    replace None := rnum None b19
    replace Ntwo := rnum Ntwo b19
    replace Ntwice := rnum Ntwice b19
    replace Ne := rnum Ne b19
    have Bl19 := btr Bl18 b19 Bl18.out.size
    clear Bl18
    clear b19
    go_wp2_with fail
    with_reducible refine (num_cmp Ntwice Nm HLT.2.2).mono ?_
    rintro e w20_ ⟨rfl, b20⟩
    replace HIN3 := rin HIN3 b20
    replace D_0 := rdn D_0 b20
    replace D_1 := rdn D_1 b20
    replace X_0 := rb2 X_0 b20
    replace X_1 := rb2 X_1 b20
    replace Dn := rdn Dn b20
    replace Xn := rb2 Xn b20
    replace Da := rdn Da b20
    replace Xa := rb2 Xa b20
    replace Do := rdn Do b20
    replace Xo := rb2 Xo b20
    replace Np := rnum Np b20
    replace Nq := rnum Nq b20
    replace Nr := rnum Nr b20
    replace Nu := rnum Nu b20
    replace Nw := rnum Nw b20
    replace Nm := rnum Nm b20
    replace Nwhole := rnum Nwhole b20
    replace None := rnum None b20
    replace Ntwo := rnum Ntwo b20
    replace Ntwice := rnum Ntwice b20
    replace Ne := rnum Ne b20
    have Bl20 := btr Bl19 b20 Bl19.out.size
    clear Bl19
    clear b20
    go_wp2
    go_ret
    exact ⟨rfl, Bl20.out⟩

end Go.Proofs.YtpeahjfkiehniaaDoor
