/-
  DiagramCanonical: two sets over the same conditions, computed in different ways, have the same diagram if and only if they have the same configurations; all diagrams that are computed are valid. (Written by lcan.py.)
-/
import Derived.Test.YtpeahjfkiehniaaDoorMk
import Derived.Test.YtpeahjfkiehniaaDoorMi
import Derived.Test.YtpeahjfkiehniaaDoorMq
import Derived.Test.YtpeahjfkiehniaaDoorMr
import Derived.Test.YtpeahjfkiehniaaDoorMs
namespace Go.Proofs.YtpeahjfkiehniaaDoor
open Go.RowKit Dg St

theorem Off.fresh {w : World} {A : Option Addr} {m c r : Nat} {f : Cfg → Bool} (h : Dn w A m c r f) : Off A m w.heap.size := fun hm b o e => by
  obtain ⟨b', o', e', hb, _⟩ := h.rd (by rw [up_len, h.len]; exact hm)
  rw [e] at e'
  simp only [Option.some.injEq, Addr.mk.injEq] at e'
  omega
theorem Off.fr {A : Option Addr} {m h B : Nat} (hf : Fr A B) (hh : h < B) : Off A m h := fun _ b o e => by have := hf b o e; omega
theorem B2.put {w : World} {g : Nat} {a b x y : Value} (h : B2 w g a b) : B2 ((w.setCell ⟨g, 0, none⟩ x).setCell ⟨g, 1, none⟩ y) g x y := by
  refine ((h.set (i := 0) (by omega) _).set (i := 1) (by omega) _).congr (fun j hj => ?_)
  obtain rfl | rfl : j = 0 ∨ j = 1 := by omega
  · rfl
  · rfl
theorem B2.off {w : World} {g h : Nat} {a b x y : Value} (k : B2 w g a b) (hne : g ≠ h) : B2 ((w.setCell ⟨h, 0, none⟩ x).setCell ⟨h, 1, none⟩ y) g a b := (k.other hne.symm _).other hne.symm _
/-- the state of the outer loop: the description's box G, the sets' boxes ga and gb, the union's box gc -/
structure CaS (w wr : World) (G ga gb gc : Nat) (As : Option Addr) (ns cs Ns : Nat) (Aa : Option Addr) (ma ca ra : Nat) (Ab : Option Addr) (mb cb rb : Nat) (fa fb : Cfg → Bool) (Ac : Option Addr) (mc cc rc : Nat) (fc : Cfg → Bool) : Prop where
  bel : Below w.heap.size w wr
  bs : B2 wr G (.slice As ns cs) (.int .u8 (Ns : Int))
  ba : B2 wr ga (.slice Aa ma ca) (.int .i64 (ra : Int))
  bb : B2 wr gb (.slice Ab mb cb) (.int .i64 (rb : Int))
  bc : B2 wr gc (.slice Ac mc cc) (.int .i64 (rc : Int))
  da : Dn wr Aa ma ca ra fa
  db : Dn wr Ab mb cb rb fb
  dc : Dn wr Ac mc cc rc fc
  oa : Off Aa ma gc
  ob : Off Ab mb gc
  l0 : w.heap.size ≤ gc
  n1 : G ≠ gc
  n2 : ga ≠ gc
  n3 : gb ≠ gc
theorem CaS.below {w wr : World} {G ga gb gc : Nat} {As : Option Addr} {ns cs Ns : Nat} {Aa : Option Addr} {ma ca ra : Nat} {Ab : Option Addr} {mb cb rb : Nat} {fa fb : Cfg → Bool} {Ac : Option Addr} {mc cc rc : Nat} {fc : Cfg → Bool} {w' : World} (h : CaS w wr G ga gb gc As ns cs Ns Aa ma ca ra Ab mb cb rb fa fb Ac mc cc rc fc) (hb : Below wr.heap.size wr w') : CaS w w' G ga gb gc As ns cs Ns Aa ma ca ra Ab mb cb rb fa fb Ac mc cc rc fc :=
  ⟨h.bel.trans (hb.mono h.bel.size), h.bs.below (by omega) hb, h.ba.below (by omega) hb, h.bb.below (by omega) hb, h.bc.below (by omega) hb, h.da.below hb, h.db.below hb, h.dc.below hb, h.oa, h.ob, h.l0, h.n1, h.n2, h.n3⟩
theorem CaS.drew {w wr : World} {G ga gb gc : Nat} {As : Option Addr} {ns cs Ns : Nat} {Aa : Option Addr} {ma ca ra : Nat} {Ab : Option Addr} {mb cb rb : Nat} {fa fb : Cfg → Bool} {Ac : Option Addr} {mc cc rc : Nat} {fc : Cfg → Bool} (h : CaS w wr G ga gb gc As ns cs Ns Aa ma ca ra Ab mb cb rb fa fb Ac mc cc rc fc) : CaS w wr.drew G ga gb gc As ns cs Ns Aa ma ca ra Ab mb cb rb fa fb Ac mc cc rc fc := h.below (Below.refl _ _).drew
theorem CaS.store {w wr : World} {G ga gb gc : Nat} {As : Option Addr} {ns cs Ns : Nat} {Aa : Option Addr} {ma ca ra : Nat} {Ab : Option Addr} {mb cb rb : Nat} {fa fb : Cfg → Bool} {Ac : Option Addr} {mc cc rc : Nat} {fc : Cfg → Bool} {A : Option Addr} {m c r : Nat} {f : Cfg → Bool} (h : CaS w wr G ga gb gc As ns cs Ns Aa ma ca ra Ab mb cb rb fa fb Ac mc cc rc fc) (d : Dn wr A m c r f) (o : Off A m gc) : CaS w ((wr.setCell ⟨gc, 0, none⟩ (.slice A m c)).setCell ⟨gc, 1, none⟩ (.int .i64 (r : Int))) G ga gb gc As ns cs Ns Aa ma ca ra Ab mb cb rb fa fb A m c r f :=
  ⟨(h.bel.setCell h.l0 _).setCell h.l0 _, h.bs.off h.n1, h.ba.off h.n2, h.bb.off h.n3, h.bc.put, h.da.stays h.oa _ _, h.db.stays h.ob _ _, d.stays o _ _, h.oa, h.ob, h.l0, h.n1, h.n2, h.n3⟩
/-- the state of the inner loop: the configuration's box g1 -/
structure CaI (w wr : World) (G ga gb gc : Nat) (As : Option Addr) (ns cs Ns : Nat) (Aa : Option Addr) (ma ca ra : Nat) (Ab : Option Addr) (mb cb rb : Nat) (fa fb : Cfg → Bool) (Ac : Option Addr) (mc cc rc : Nat) (fc : Cfg → Bool) (g1 : Nat) (A1 : Option Addr) (m1 c1 r1 : Nat) (f1 : Cfg → Bool) : Prop where
  s : CaS w wr G ga gb gc As ns cs Ns Aa ma ca ra Ab mb cb rb fa fb Ac mc cc rc fc
  b1 : B2 wr g1 (.slice A1 m1 c1) (.int .i64 (r1 : Int))
  d1 : Dn wr A1 m1 c1 r1 f1
  o1 : Off Aa ma g1
  o2 : Off Ab mb g1
  o3 : Off Ac mc g1
  l1 : w.heap.size ≤ g1
  k0 : G ≠ g1
  k1 : ga ≠ g1
  k2 : gb ≠ g1
  k3 : gc ≠ g1
theorem CaI.below {w wr : World} {G ga gb gc : Nat} {As : Option Addr} {ns cs Ns : Nat} {Aa : Option Addr} {ma ca ra : Nat} {Ab : Option Addr} {mb cb rb : Nat} {fa fb : Cfg → Bool} {Ac : Option Addr} {mc cc rc : Nat} {fc : Cfg → Bool} {w' : World} {g1 : Nat} {A1 : Option Addr} {m1 c1 r1 : Nat} {f1 : Cfg → Bool} (h : CaI w wr G ga gb gc As ns cs Ns Aa ma ca ra Ab mb cb rb fa fb Ac mc cc rc fc g1 A1 m1 c1 r1 f1) (hb : Below wr.heap.size wr w') : CaI w w' G ga gb gc As ns cs Ns Aa ma ca ra Ab mb cb rb fa fb Ac mc cc rc fc g1 A1 m1 c1 r1 f1 :=
  ⟨h.s.below hb, h.b1.below (by omega) hb, h.d1.below hb, h.o1, h.o2, h.o3, h.l1, h.k0, h.k1, h.k2, h.k3⟩
theorem CaI.drew {w wr : World} {G ga gb gc : Nat} {As : Option Addr} {ns cs Ns : Nat} {Aa : Option Addr} {ma ca ra : Nat} {Ab : Option Addr} {mb cb rb : Nat} {fa fb : Cfg → Bool} {Ac : Option Addr} {mc cc rc : Nat} {fc : Cfg → Bool} {g1 : Nat} {A1 : Option Addr} {m1 c1 r1 : Nat} {f1 : Cfg → Bool} (h : CaI w wr G ga gb gc As ns cs Ns Aa ma ca ra Ab mb cb rb fa fb Ac mc cc rc fc g1 A1 m1 c1 r1 f1) : CaI w wr.drew G ga gb gc As ns cs Ns Aa ma ca ra Ab mb cb rb fa fb Ac mc cc rc fc g1 A1 m1 c1 r1 f1 := h.below (Below.refl _ _).drew
theorem CaI.store {w wr : World} {G ga gb gc : Nat} {As : Option Addr} {ns cs Ns : Nat} {Aa : Option Addr} {ma ca ra : Nat} {Ab : Option Addr} {mb cb rb : Nat} {fa fb : Cfg → Bool} {Ac : Option Addr} {mc cc rc : Nat} {fc : Cfg → Bool} {g1 : Nat} {A1 A : Option Addr} {m1 c1 r1 m c r : Nat} {f1 f : Cfg → Bool} (h : CaI w wr G ga gb gc As ns cs Ns Aa ma ca ra Ab mb cb rb fa fb Ac mc cc rc fc g1 A1 m1 c1 r1 f1) (d : Dn wr A m c r f) (o : Off A m g1) : CaI w ((wr.setCell ⟨g1, 0, none⟩ (.slice A m c)).setCell ⟨g1, 1, none⟩ (.int .i64 (r : Int))) G ga gb gc As ns cs Ns Aa ma ca ra Ab mb cb rb fa fb Ac mc cc rc fc g1 A m c r f :=
  ⟨⟨(h.s.bel.setCell h.l1 _).setCell h.l1 _, h.s.bs.off h.k0, h.s.ba.off h.k1, h.s.bb.off h.k2, h.s.bc.off h.k3, h.s.da.stays h.o1 _ _, h.s.db.stays h.o2 _ _, h.s.dc.stays h.o3 _ _, h.s.oa, h.s.ob, h.s.l0, h.s.n1, h.s.n2, h.s.n3⟩,
    h.b1.put, d.stays o _ _, h.o1, h.o2, h.o3, h.l1, h.k0, h.k1, h.k2, h.k3⟩
theorem const_nil5 (w : World) : Calls Tryd.prog 52 #[.bool false] w fun e w' => e = .returned (.agg #[.slice none 0 0, .int .i64 0]) ∧ Below w.heap.size w w' := constant_any false w
theorem const_one5 (w : World) : Calls Tryd.prog 52 #[.bool true] w fun e w' => e = .returned (.agg #[.slice none 0 0, .int .i64 1]) ∧ Below w.heap.size w w' := constant_any true w
theorem dn_false5 (w : World) : Dn w none 0 0 0 (fun _ => false) := ⟨by rw [cn_const]; exact Rd.nil, by rw [cn_const]; rfl, by rw [cn_const]; rfl, Nat.le_refl _, by omega, d64_const _⟩
theorem dn_true5 (w : World) : Dn w none 0 0 1 (fun _ => true) := ⟨by rw [cn_const]; exact Rd.nil, by rw [cn_const]; rfl, by rw [cn_const]; rfl, Nat.le_refl _, by omega, d64_const _⟩
theorem off_none (h : Nat) : Off none 0 h := fun h0 => absurd h0 (by omega)
theorem bit_i {k q V : Nat} (hq : q = k / 2 ^ V) : (((q % 2 : Nat) : Int) == 1) = k.testBit V := by
  rw [Nat.testBit_eq_decide_div_mod_eq, ← hq, Bool.eq_iff_iff, beq_iff_eq, decide_eq_true_iff]
  omega
theorem klit_succ (k v : Nat) : (fun x => cube (klit k v) x && cube [(v, k.testBit v)] x) = cube (klit k (v + 1)) := by
  funext x
  simp [klit, cube, Bool.and_comm]

set_option maxHeartbeats 8000000 in
set_option maxRecDepth 100000 in
theorem lawCan_walk (N0 n0 c0 : Nat) (A0 : Option Addr) (l0 : List Nat) (N1 n1 c1 : Nat) (A1 : Option Addr) (l1 : List Nat) (w : World) (hN0 : N0 < 256) (h80 : Hid (R8 w A0 n0 l0)) (hn0 : n0 ≤ 9223372036854775807) (_hN1 : N1 < 256) (h81 : Hid (R8 w A1 n1 l1)) (hn1 : n1 ≤ 9223372036854775807) (HIN : Hid (Ins w 0)) :
    Calls Tryd.prog 5 #[.agg #[.slice A0 n0 c0, .int .u8 (N0 : Int)], .agg #[.slice A1 n1 c1, .int .u8 (N1 : Int)]] w fun e w' => e = .returned (.bool true) ∧ Below w.heap.size w w' := by
  have b1 := ab2 w (.cells #[.slice A0 n0 c0, .int .u8 (N0 : Int)] 54)
  have b2 := ab2 (w.alloc (.cells #[.slice A0 n0 c0, .int .u8 (N0 : Int)] 54)) (.cells #[.slice A1 n1 c1, .int .u8 (N1 : Int)] 54)
  have X0 := rb2 (nb2 w (.slice A0 n0 c0) (.int .u8 (N0 : Int)) 54) b2
  have X1 := nb2 (w.alloc (.cells #[.slice A0 n0 c0, .int .u8 (N0 : Int)] 54)) (.slice A1 n1 c1) (.int .u8 (N1 : Int)) 54
  rw [show (w.alloc (.cells #[.slice A0 n0 c0, .int .u8 (N0 : Int)] 54)).heap.size = w.heap.size + 1 by simp] at X1
  have HB0 := Lib.hid (b1.trans (b2.mono b1.size))
  have HIN0 := rin HIN HB0.out
  have hm0 : ∀ w', Below w.heap.size w w' → Calls Tryd.prog 51 #[.agg #[.slice A0 n0 c0, .int .u8 (N0 : Int)]] w' fun e w'' => DiaOk w' w'' (sset l0 N0) e :=
    fun w' hb => lmade_ok N0 n0 c0 A0 l0 w' (Lib.hid (h80.out.below hb)) hN0 hn0
  have hm1 : ∀ w', Below w.heap.size w w' → Calls Tryd.prog 51 #[.agg #[.slice A1 n1 c1, .int .u8 (N0 : Int)]] w' fun e w'' => DiaOk w' w'' (sset l1 N0) e :=
    fun w' hb => lmade_ok N0 n1 c1 A1 l1 w' (Lib.hid (h81.out.below hb)) hN0 hn1
  have hsz := fun w' => lsize_ok N0 hN0 (.slice A0 n0 c0) ⟨_, _, _, rfl⟩ w'
  have hl0 : Low (N0 % 7) (sset l0 N0) := tset_low l0 _ _ _ _ (by omega)
  have hl1 : Low (N0 % 7) (sset l1 N0) := tset_low l1 _ _ _ _ (by omega)
  have hnn : N0 % 7 ≤ 6 := by omega
  have HM0 := Lib.hid hm0
  have HM1 := Lib.hid hm1
  have HSZ := Lib.hid hsz
  have HL0 := Lib.hid hl0
  have HL1 := Lib.hid hl1
  clear hm0 hm1 hsz hl0 hl1 b1 b2
  generalize sset l0 N0 = fa at *
  generalize sset l1 N0 = fb at *
  generalize N0 % 7 = nn at *
  obtain ⟨P, hP⟩ : ∃ P, P = 2 ^ nn := ⟨_, rfl⟩
  have hP64 : P ≤ 64 := by rw [hP]; exact Nat.pow_le_pow_right (by omega) hnn
  have hsh : IntKind.i64.wrap ((2 : Int) ^ nn) = (P : Int) := by
    have e : ((2 : Int) ^ nn) = (P : Int) := by rw [hP]; push_cast; rfl
    rw [e, IntKind.wrap_i64]; omega
  have hu1 : IntKind.u64.wrap (nn : Int) = (nn : Int) := by rw [IntKind.wrap_u64]; omega
  have HPP := Lib.hid hP
  clear hP
  go_enter Tryd.func5, Tryd.ntmps5
  go_wp2_with fail
  with_reducible refine (sanity_ok _ HIN0).mono ?_
  rintro e w2 ⟨rfl, b2⟩
  replace X0 := rb2 X0 b2
  replace X1 := rb2 X1 b2
  have HB2 := btr HB0 b2 HB0.out.size
  clear b2 HB0 HIN0
  obtain ⟨x0, x1, xn⟩ := xb2 X0
  obtain ⟨y0, y1, yn⟩ := xb2 X1
  obtain ⟨_, z1⟩ := X1.out 1 (by omega)
  go_wp2_with fail
  have HB3 : Hid (Below w.heap.size w (w2.setCell ⟨w.heap.size + 1, 1, none⟩ (.int .u8 (N0 : Int)))) := HB2.out.setCell (by simp) _
  have X03 : Hid (B2 (w2.setCell ⟨w.heap.size + 1, 1, none⟩ (.int .u8 (N0 : Int))) w.heap.size (.slice A0 n0 c0) (.int .u8 (N0 : Int))) := X0.out.other (by simp) _
  have X13 : Hid (B2 (w2.setCell ⟨w.heap.size + 1, 1, none⟩ (.int .u8 (N0 : Int))) (w.heap.size + 1) (.slice A1 n1 c1) (.int .u8 (N0 : Int))) := (X1.out.set (i := 1) (by omega) _).congr (fun j hj => by
    obtain rfl | rfl : j = 0 ∨ j = 1 := by omega
    · rfl
    · rfl)
  clear x0 x1 xn y0 y1 yn z1 X0 X1 HB2
  generalize w2.setCell ⟨w.heap.size + 1, 1, none⟩ (.int .u8 (N0 : Int)) = w3 at *
  with_reducible refine (HM0.out _ HB3.out).mono ?_
  rintro e w4 ⟨⟨Aa, ma, ca, ra, rfl, d4, _⟩, b4⟩
  have D4 := lid' d4
  have X04 := rb2 X03 b4
  have X14 := rb2 X13 b4
  have HB4 := btr HB3 b4 HB3.out.size
  clear b4 d4 X03 X13 HB3
  obtain ⟨y0, y1, yn⟩ := xb2 X14
  go_wp2_with fail
  have a4 := ab2 w4 (.cells #[.slice Aa ma ca, .int .i64 (ra : Int)] 24)
  have XA := nb2 w4 (.slice Aa ma ca) (.int .i64 (ra : Int)) 24
  have D5 := rdn D4 a4
  have X05 := rb2 X04 a4
  have HB5 := btr HB4 a4 HB4.out.size
  clear y0 y1 yn a4 D4 X04 X14 HB4
  generalize w4.alloc (.cells #[.slice Aa ma ca, .int .i64 (ra : Int)] 24) = w5 at *
  generalize w4.heap.size = ga at *
  with_reducible refine (HM1.out _ HB5.out).mono ?_
  rintro e w6 ⟨⟨Ab, mb, cb, rb, rfl, d6, _⟩, b6⟩
  have D6 := lid' d6
  replace D5 := rdn D5 b6
  replace X05 := rb2 X05 b6
  replace XA := rb2 XA b6
  have HB6 := btr HB5 b6 HB5.out.size
  clear b6 d6 HB5
  go_wp2_with fail
  have a6 := ab2 w6 (.cells #[.slice Ab mb cb, .int .i64 (rb : Int)] 24)
  have XB := nb2 w6 (.slice Ab mb cb) (.int .i64 (rb : Int)) 24
  replace D5 := rdn D5 a6
  replace D6 := rdn D6 a6
  replace X05 := rb2 X05 a6
  replace XA := rb2 XA a6
  have HB7 := btr HB6 a6 HB6.out.size
  clear a6 HB6
  generalize w6.alloc (.cells #[.slice Ab mb cb, .int .i64 (rb : Int)] 24) = w7 at *
  generalize w6.heap.size = gb at *
  with_reducible refine (const_nil5 _).mono ?_
  rintro e w8 ⟨rfl, b8⟩
  replace D5 := rdn D5 b8
  replace D6 := rdn D6 b8
  replace X05 := rb2 X05 b8
  replace XA := rb2 XA b8
  replace XB := rb2 XB b8
  have HB8 := btr HB7 b8 HB7.out.size
  clear b8 HB7
  have HCA : Hid (CaS w (w8.alloc (.cells #[.slice none 0 0, .int .i64 0] 24)) w.heap.size ga gb w8.heap.size A0 n0 c0 N0 Aa ma ca ra Ab mb cb rb fa fb none 0 0 0 (uni fa nn 0)) := by
    have a8 := ab2 w8 (.cells #[.slice none 0 0, .int .i64 0] 24)
    have h1 := X05.out.lt (by omega)
    have h2 := XA.out.lt (by omega)
    have h3 := XB.out.lt (by omega)
    exact ⟨HB8.out.trans (a8.mono HB8.out.size), X05.out.below (by omega) a8, XA.out.below (by omega) a8, XB.out.below (by omega) a8, (nb2 w8 _ _ _).out, D5.out.below a8, D6.out.below a8, dn_false5 _, Off.fresh D5.out, Off.fresh D6.out, HB8.out.size, by omega, by omega, by omega⟩
  clear D5 D6 X05 XA XB HB8
  go_wp2
  generalize w8.alloc (.cells #[.slice none 0 0, .int .i64 0] 24) = w9 at *
  generalize w8.heap.size = gc at *
  have HCA' : Hid (agr fa fb 0 = true) := agr_zero fa fb
  go_loopw [9, 10] (fun e9 k10 wr => ∃ (k : Nat) (Ac : Option Addr) (mc cc rc : Nat), k ≤ P ∧ k10 = .int .i64 (k : Int) ∧ e9 = .bool (agr fa fb k) ∧ Hid (CaS w wr w.heap.size ga gb gc A0 n0 c0 N0 Aa ma ca ra Ab mb cb rb fa fb Ac mc cc rc (uni fa nn k))) (fun _ k10 _ => P - (intOf k10).toNat)
  case atStart => exact ⟨0, none, 0, 0, 0, Nat.zero_le _, rfl, by rw [HCA'.out], HCA.out⟩
  case round =>
    obtain ⟨k, Ac, mc, cc, rc, hk, rfl, rfl, hst⟩ := hrel
    obtain ⟨x0, x1, xn⟩ := xb2 (lid' hst.out.bs)
    go_wp2_with fail
    with_reducible refine (HSZ.out _).mono ?_
    rintro e wa ⟨rfl, ba⟩
    have HSA := lid' (hst.out.below ba)
    clear ba x0 x1 xn
    by_cases hkP : k < P
    · have i1 : (k : Int) < (P : Int) := by omega
      go_wp2_with fail
      with_reducible refine (const_one5 _).mono ?_
      rintro e wb ⟨rfl, bb⟩
      have HSB := lid' (HSA.out.below bb)
      have HCI : Hid (CaI w (wb.alloc (.cells #[.slice none 0 0, .int .i64 1] 24)) w.heap.size ga gb gc A0 n0 c0 N0 Aa ma ca ra Ab mb cb rb fa fb Ac mc cc rc (uni fa nn k) wb.heap.size none 0 0 1 (cube (klit k 0))) := by
        have ab := ab2 wb (.cells #[.slice none 0 0, .int .i64 1] 24)
        have h1 := HSB.out.bs.lt (by omega)
        have h2 := HSB.out.ba.lt (by omega)
        have h3 := HSB.out.bb.lt (by omega)
        have h4 := HSB.out.bc.lt (by omega)
        exact ⟨HSB.out.below ab, (nb2 wb _ _ _).out, dn_true5 _, Off.fresh HSB.out.da, Off.fresh HSB.out.db, Off.fresh HSB.out.dc, HSB.out.bel.size, by omega, by omega, by omega, by omega⟩
      clear bb HSA HSB
      go_wp2
      generalize wb.alloc (.cells #[.slice none 0 0, .int .i64 1] 24) = wd at *
      generalize wb.heap.size = g1 at *
      go_loopw [12] (fun v12 wq => ∃ (v : Nat) (Ao : Option Addr) (mo co ro : Nat), v ≤ nn ∧ v12 = .int .i64 (v : Int) ∧ Hid (CaI w wq w.heap.size ga gb gc A0 n0 c0 N0 Aa ma ca ra Ab mb cb rb fa fb Ac mc cc rc (uni fa nn k) g1 Ao mo co ro (cube (klit k v)))) (fun v12 _ => nn - (intOf v12).toNat)
      case atStart => exact ⟨0, none, 0, 0, 1, Nat.zero_le _, rfl, HCI.out⟩
      case round =>
        obtain ⟨v, Ao, mo, co, ro, hv, rfl, hsi⟩ := hrel
        obtain ⟨x0, x1, xn⟩ := xb2 (lid' hsi.out.s.bs)
        go_wp2_with fail
        with_reducible refine (HSZ.out _).mono ?_
        rintro e we ⟨rfl, be⟩
        have HI := lid' (hsi.out.below be)
        clear be x0 x1 xn
        by_cases hvn : v < nn
        · have i2 : (v : Int) < (nn : Int) := by omega
          have hu2 : IntKind.u64.wrap (v : Int) = (v : Int) := by rw [IntKind.wrap_u64]; omega
          have hu3 : min v 64 = v := by omega
          obtain ⟨q, hq⟩ : ∃ q, q = k / 2 ^ v := ⟨_, rfl⟩
          have e0 : q ≤ k := by rw [hq]; exact Nat.div_le_self _ _
          have e1 : (k : Int) / 2 ^ v = (q : Int) := by rw [hq]; push_cast; rfl
          have e2 : (q : Int).tmod 2 = ((q % 2 : Nat) : Int) := by rw [Int.tmod_eq_emod_of_nonneg (by omega)]; omega
          have e3 := bit_i hq
          have e4 : IntKind.i64.wrap (q : Int) = (q : Int) := by rw [IntKind.wrap_i64]; omega
          have e5 : IntKind.i64.wrap ((q % 2 : Nat) : Int) = ((q % 2 : Nat) : Int) := by rw [IntKind.wrap_i64]; omega
          have hks := klit_succ k v
          have HLk : Hid (Low 6 (cube (klit k v))) := (cube_low (klit_lt k v)).mono (by omega)
          have HLV : Hid (Low 6 (cube [(v, k.testBit v)])) := cube_low (fun p hp => by simp at hp; subst hp; show v < 6; omega)
          have hlit := fun w' => literal_ok v (k.testBit v) w' (by omega)
          generalize k.testBit v = bt at *
          have HLIT := lid' hlit
          have HKS := lid' hks
          clear hlit hks hq
          generalize q % 2 = qm at *
          obtain ⟨x0, x1, xn⟩ := xb2 (lid' HI.out.b1)
          go_wp2
          go_region_law ((first
            | (go_simp; go_at_call 54; (with_reducible refine (HLIT.out we.drew).mono ?_); rintro e w8 ⟨⟨A1', m1', c1', r1', rfl, d1, _⟩, b8'⟩; have HI8 := lid' (HI.out.drew.below b8'); have D1 := lid' d1; obtain ⟨y0, y1, yn⟩ := xb2 (lid' HI8.out.b1); clear b8' d1)
            | (go_simp; go_at_call 17; (with_reducible refine (six_and (lid' HI8.out.d1) D1 HLk HLV (rin HIN HI8.out.s.bel) HKS).mono ?_); rintro e w9 ⟨⟨A9, m9, c9, r9, rfl, d9, f9⟩, b9⟩; have HI9 := lid' (HI8.out.below b9); have D9 := lid' d9; have F9 := lid' (Off.fr (m := m9) f9 yn); obtain ⟨z0, z1, zn⟩ := xb2 (lid' HI9.out.b1); obtain ⟨_, t0⟩ := HI9.out.b1 0 (by omega); obtain ⟨_, t1⟩ := HI9.out.b1 1 (by omega); clear b9 d9 f9)))
          all_goals
            go_wp2
            go_roundw
            case rel => exact ⟨v + 1, A9, m9, c9, r9, by omega, by go_num, by first | exact HI9.out.store D9.out F9.out | exact (HI9.out.store D9.out F9.out).drew⟩
            case measure => simp [intOf]; omega
        · obtain rfl : v = nn := by omega
          have hu3 : IntKind.u64.wrap (k : Int) = (k : Int) := by rw [IntKind.wrap_u64]; omega
          have hua := fun h : fa (cf k) = true => uni_yes (n := v) h
          have hub := fun h : fa (cf k) = false => uni_no (n := v) h
          have hag := agr_succ fa fb k
          have HLk : Hid (Low 6 (cube (klit k v))) := (cube_low (klit_lt k v)).mono (by omega)
          have HLU : Hid (Low 6 (uni fa v k)) := (uni_low fa v k).mono (by omega)
          generalize huk : uni fa v (k + 1) = uk1 at *
          generalize uni fa v k = uk at *
          generalize hak : agr fa fb (k + 1) = ak1 at *
          generalize agr fa fb k = ak at *
          generalize hfa : fa (cf k) = xa at *
          generalize hfb : fb (cf k) = xb at *
          have HFA := lid' hfa
          have HFB := lid' hfb
          have HUA := lid' hua
          have HUB := lid' hub
          have HAG := lid' hag
          have HUK := lid' huk
          have HAK := lid' hak
          clear hfa hfb hua hub hag huk hak
          obtain ⟨x0, x1, xn⟩ := xb2 (lid' HI.out.s.ba)
          go_wp2_with fail
          with_reducible refine (s_holds (x := k) (lid' HI.out.s.da) rfl rfl (by omega) xa HFA.out).mono ?_
          rintro e wf ⟨rfl, bf⟩
          have HF := lid' (HI.out.below bf)
          clear bf x0 x1 xn HI
          rcases xa with _ | _
          · have HEQ : Hid (uk1 = uk) := HUB.out rfl
            have HS0 : Hid (CaS w wf w.heap.size ga gb gc A0 n0 c0 N0 Aa ma ca ra Ab mb cb rb fa fb Ac mc cc rc uk1) := show CaS _ _ _ _ _ _ _ _ _ _ _ _ _ _ _ _ _ _ _ _ _ _ _ _ uk1 by rw [HEQ.out]; exact HF.out.s
            clear HUA HUB HF
            go_wp2
            rcases ak with _ | _
            · go_quiet (fail)
              go_wp2
              go_roundw
              case rel => exact ⟨k + 1, Ac, mc, cc, rc, by omega, by go_num, by rw [HAK.out, HAG.out]; rfl, by rw [HUK.out]; first | exact HS0.out | exact HS0.out.drew | exact HS0.out.below (below_drewN (Below.refl _ _) _)⟩
              case measure => simp [intOf]; omega
            · obtain ⟨x0, x1, xn⟩ := xb2 (lid' HS0.out.ba)
              obtain ⟨y0, y1, yn⟩ := xb2 (lid' HS0.out.bb)
              go_region_held3 (fun w' => w'.cell? ⟨ga, 0, none⟩ = some (.slice Aa ma ca) ∧ w'.cell? ⟨ga, 1, none⟩ = some (.int .i64 (ra : Int)) ∧ w'.cell? ⟨gb, 0, none⟩ = some (.slice Ab mb cb) ∧ w'.cell? ⟨gb, 1, none⟩ = some (.int .i64 (rb : Int))) (first | (refine ⟨?_, ?_, ?_, ?_⟩ <;> (with_reducible assumption)) | go_keep) ((first
                | (have _kq := HS1; go_at_call 46; (with_reducible refine (s_holds (x := k) (lid' HS1.out.db) rfl rfl (by omega) xb HFB.out).mono ?_); rintro e wj ⟨rfl, bj⟩; have HS2 := lid' (HS1.out.below bj); obtain ⟨x0, x1, xn⟩ := xb2 (lid' HS2.out.ba); obtain ⟨y0, y1, yn⟩ := xb2 (lid' HS2.out.bb); clear bj)
                | (go_at_call 46; (with_reducible refine (s_holds (x := k) (lid' HS0.out.drew.da) rfl rfl (by omega) false HFA.out).mono ?_); rintro e wi ⟨rfl, bi⟩; have HS1 := lid' (HS0.out.drew.below bi); obtain ⟨x0, x1, xn⟩ := xb2 (lid' HS1.out.ba); obtain ⟨y0, y1, yn⟩ := xb2 (lid' HS1.out.bb); clear bi)))
              all_goals
                go_wp2
                go_roundw
                case rel => exact ⟨k + 1, Ac, mc, cc, rc, by omega, by go_num, by rw [HAK.out, HAG.out]; cases xb <;> rfl, by rw [HUK.out]; exact HS2.out⟩
                case measure => simp [intOf]; omega
          · have HEQ : Hid ((fun x => cube (klit k v) x || uk x) = uk1) := (HUA.out rfl).symm
            obtain ⟨x0, x1, xn⟩ := xb2 (lid' HF.out.b1)
            obtain ⟨y0, y1, yn⟩ := xb2 (lid' HF.out.s.bc)
            clear HUA HUB
            go_wp2_with fail
            with_reducible refine (six_or (lid' HF.out.d1) (lid' HF.out.s.dc) HLk HLU (rin HIN HF.out.s.bel) HEQ).mono ?_
            rintro e wg ⟨⟨A9, m9, c9, r9, rfl, d9, f9⟩, bg⟩
            have HG := lid' (HF.out.s.below bg)
            have D9 := lid' d9
            have F9 := lid' (Off.fr (m := m9) f9 yn)
            clear bg d9 f9 x0 x1 xn y0 y1 yn HF
            obtain ⟨z0, z1, zn⟩ := xb2 (lid' HG.out.bc)
            obtain ⟨_, t0⟩ := HG.out.bc 0 (by omega)
            obtain ⟨_, t1⟩ := HG.out.bc 1 (by omega)
            go_wp2
            have HS0 := lid' (HG.out.store D9.out F9.out)
            clear z0 z1 zn t0 t1 HG D9 F9
            generalize (wg.setCell ⟨gc, 0, none⟩ (.slice A9 m9 c9)).setCell ⟨gc, 1, none⟩ (.int .i64 (r9 : Int)) = wh at *
            rcases ak with _ | _
            · go_quiet (fail)
              go_wp2
              go_roundw
              case rel => exact ⟨k + 1, A9, m9, c9, r9, by omega, by go_num, by rw [HAK.out, HAG.out]; rfl, by rw [HUK.out]; first | exact HS0.out | exact HS0.out.drew | exact HS0.out.below (below_drewN (Below.refl _ _) _)⟩
              case measure => simp [intOf]; omega
            · obtain ⟨x0, x1, xn⟩ := xb2 (lid' HS0.out.ba)
              obtain ⟨y0, y1, yn⟩ := xb2 (lid' HS0.out.bb)
              go_region_held3 (fun w' => w'.cell? ⟨ga, 0, none⟩ = some (.slice Aa ma ca) ∧ w'.cell? ⟨ga, 1, none⟩ = some (.int .i64 (ra : Int)) ∧ w'.cell? ⟨gb, 0, none⟩ = some (.slice Ab mb cb) ∧ w'.cell? ⟨gb, 1, none⟩ = some (.int .i64 (rb : Int))) (first | (refine ⟨?_, ?_, ?_, ?_⟩ <;> (with_reducible assumption)) | go_keep) ((first
                | (have _kq := HS1; go_at_call 46; (with_reducible refine (s_holds (x := k) (lid' HS1.out.db) rfl rfl (by omega) xb HFB.out).mono ?_); rintro e wj ⟨rfl, bj⟩; have HS2 := lid' (HS1.out.below bj); obtain ⟨x0, x1, xn⟩ := xb2 (lid' HS2.out.ba); obtain ⟨y0, y1, yn⟩ := xb2 (lid' HS2.out.bb); clear bj)
                | (go_at_call 46; (with_reducible refine (s_holds (x := k) (lid' HS0.out.drew.da) rfl rfl (by omega) true HFA.out).mono ?_); rintro e wi ⟨rfl, bi⟩; have HS1 := lid' (HS0.out.drew.below bi); obtain ⟨x0, x1, xn⟩ := xb2 (lid' HS1.out.ba); obtain ⟨y0, y1, yn⟩ := xb2 (lid' HS1.out.bb); clear bi)))
              all_goals
                go_wp2
                go_roundw
                case rel => exact ⟨k + 1, A9, m9, c9, r9, by omega, by go_num, by rw [HAK.out, HAG.out]; cases xb <;> rfl, by rw [HUK.out]; exact HS2.out⟩
                case measure => simp [intOf]; omega
    · obtain rfl : k = P := by omega
      have hun := uni_all HL0.out
      have hag := agr_all HL0.out HL1.out
      rw [← HPP.out] at hun hag
      have HUN := lid' hun
      have HAG : Hid (BIff (agr fa fb k) (fa = fb)) := hag
      clear hun hag
      generalize agr fa fb k = eq at *
      generalize uni fa nn k = uk at *
      obtain ⟨x0, x1, xn⟩ := xb2 (lid' HSA.out.bc)
      rcases eq with _ | _
      all_goals
        go_wp2_with fail
        with_reducible refine (chk_dn (lid' HSA.out.dc)).mono ?_
        rintro e wb ⟨rfl, bb⟩
        have HSB := lid' (HSA.out.below bb)
        clear bb x0 x1 xn
        obtain ⟨x0, x1, xn⟩ := xb2 (lid' HSB.out.ba)
        obtain ⟨y0, y1, yn⟩ := xb2 (lid' HSB.out.bc)
        go_wp2_with fail
        with_reducible refine (same_dn (lid' HSB.out.da) (lid' HSB.out.dc) rfl rfl true (lid' ⟨fun _ => HUN.out.symm, fun _ => rfl⟩)).mono ?_
        rintro e wc ⟨rfl, bc⟩
        have HSC := lid' (HSB.out.below bc)
        clear bc x0 x1 xn y0 y1 yn
        obtain ⟨x0, x1, xn⟩ := xb2 (lid' HSC.out.ba)
        obtain ⟨y0, y1, yn⟩ := xb2 (lid' HSC.out.bb)
        go_wp2_with fail
        first
          | with_reducible refine (same_dn (lid' HSC.out.da) (lid' HSC.out.db) rfl rfl false (BIff.hid HAG)).mono ?_
          | with_reducible refine (same_dn (lid' HSC.out.da) (lid' HSC.out.db) rfl rfl true (BIff.hid HAG)).mono ?_
        rintro e wd ⟨rfl, bd⟩
        have HSD := lid' (HSC.out.below bd)
        clear bd
        go_wp2
        go_ret
        exact ⟨rfl, HSD.out.bel⟩

end Go.Proofs.YtpeahjfkiehniaaDoor
