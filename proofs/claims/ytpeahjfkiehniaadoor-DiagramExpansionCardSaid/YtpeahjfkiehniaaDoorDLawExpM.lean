/-
  DiagramExpansion: a set is the choice, by a condition, between its two restrictions; these do not depend on the condition; Exists is their union. (Written by lexp.py.)
-/
import Derived.Test.YtpeahjfkiehniaaDoorMk
import Derived.Test.YtpeahjfkiehniaaDoorMi
import Derived.Test.YtpeahjfkiehniaaDoorMu
import Derived.Test.YtpeahjfkiehniaaDoorMo
namespace Go.Proofs.YtpeahjfkiehniaaDoor
open Go.RowKit Dg St
attribute [local go_sem ↓] Go.wp_at_zero Go.wp_at_succ

theorem hsameE {f : Cfg → Bool} : Hid (true = true ↔ f = f) := Lib.hid ⟨fun _ => rfl, fun _ => rfl⟩
theorem exp_some (f : Cfg → Bool) (v : Nat) : (fun x => f (Dg.set x v false) || f (Dg.set x v true)) = fun x => f (Dg.set x v true) || f (Dg.set x v false) := by
  funext x
  cases f (Dg.set x v false) <;> cases f (Dg.set x v true) <;> rfl
theorem exp_back (f : Cfg → Bool) (v : Nat) : (fun x : Cfg => if x v then f (Dg.set x v true) else f (Dg.set x v false)) = f := by
  funext x
  exact (set_cases f x v).symm
theorem exp_same (f : Cfg → Bool) (v : Nat) : (fun x => f (Dg.set (Dg.set x v false) v true)) = fun x => f (Dg.set x v true) := by
  funext x
  have e : Dg.set (Dg.set x v false) v true = Dg.set x v true := by
    funext i
    unfold Dg.set
    split
    · rfl
    · rfl
  rw [e]

set_option maxHeartbeats 8000000 in
set_option maxRecDepth 100000 in
theorem lawExp_walk (N nn cc : Nat) (A8 : Option Addr) (l : List Nat) (x : Nat) (w : World) (hN : N < 256) (h8 : Hid (R8 w A8 nn l)) (hnn : nn ≤ 9223372036854775807) (hx : x < 256) (HIN : Hid (Ins w 0)) :
    Calls Tryd.prog 8 #[.agg #[.slice A8 nn cc, .int .u8 (N : Int)], .int .u8 (x : Int)] w fun e w' => e = .returned (.bool true) ∧ Below w.heap.size w w' := by
  have X0 := nb2 w (.slice A8 nn cc) (.int .u8 (N : Int)) 54
  have HB0 := Lib.hid (ab2 w (.cells #[.slice A8 nn cc, .int .u8 (N : Int)] 54))
  have HIN0 := rin HIN HB0.out
  have hm : ∀ w', Below w.heap.size w w' → Calls Tryd.prog 51 #[.agg #[.slice A8 nn cc, .int .u8 (N : Int)]] w' fun e w'' => DiaOk w' w'' (sset l N) e :=
    fun w' hb => lmade_ok N nn cc A8 l w' (Lib.hid (h8.out.below hb)) hN hnn
  have HM := Lib.hid hm
  have HLOW := Lib.hid (sset_low l N)
  clear hm
  generalize sset l N = f at *
  obtain ⟨v, hv⟩ : ∃ v, v = x % 64 := ⟨_, rfl⟩
  have hv64 : v < 64 := by omega
  have hv1 : (x : Int).tmod 64 = (v : Int) := by rw [Int.tmod_eq_emod_of_nonneg (by omega)]; omega
  have hv2 : (x : Int) % 64 = (v : Int) := by omega
  have HV := Lib.hid hv
  clear hv
  obtain ⟨gH, hgH⟩ : ∃ g : Cfg → Bool, g = fun x => f (Dg.set x v true) := ⟨_, rfl⟩
  obtain ⟨gL, hgL⟩ : ∃ g : Cfg → Bool, g = fun x => f (Dg.set x v false) := ⟨_, rfl⟩
  obtain ⟨gS, hgS⟩ : ∃ g : Cfg → Bool, g = fun x => gH x || gL x := ⟨_, rfl⟩
  have LH : Hid (Low 6 gH) := show Low 6 gH by rw [hgH]; exact HLOW.out.set v true
  have LL : Hid (Low 6 gL) := show Low 6 gL by rw [hgL]; exact HLOW.out.set v false
  have LS : Hid (Low 6 gS) := show Low 6 gS by rw [hgS]; exact Low.bin or LH.out LL.out
  have E_high : Hid ((fun x => f (Dg.set x v true)) = gH) := Lib.hid hgH.symm
  have E_low : Hid ((fun x => f (Dg.set x v false)) = gL) := Lib.hid hgL.symm
  have E_union : Hid ((fun x => gH x || gL x) = gS) := Lib.hid hgS.symm
  have E_some : Hid ((fun x => f (Dg.set x v false) || f (Dg.set x v true)) = gS) := Lib.hid (by rw [hgS, hgH, hgL]; exact exp_some f v)
  have E_back : Hid ((fun x : Cfg => if x v then gH x else gL x) = f) := Lib.hid (by rw [hgH, hgL]; exact exp_back f v)
  have E_same : Hid ((fun x => gH (Dg.set x v false)) = gH) := Lib.hid (by rw [hgH]; exact exp_same f v)
  clear hgH hgL hgS
  have hcv : conB (v : Int) = true := by unfold conB; simp; omega
  have HCV := Lib.hid hcv
  clear hcv
  go_enter Tryd.func8, Tryd.ntmps8
  go_wp2_with fail
  with_reducible refine (sanity_ok _ HIN0).mono ?_
  rintro e w2 ⟨rfl, b2⟩
  have X2 := rb2 X0 b2
  have HB2 := btr HB0 b2 HB0.out.size
  have HIN2 := rin HIN0 b2
  clear b2 X0 HB0 HIN0
  obtain ⟨x0, x1, xn⟩ := xb2 X2
  go_wp2_with fail
  clear x0 x1 xn X2
  with_reducible refine (HM.out _ HB2.out).mono ?_
  rintro e w3 ⟨⟨A, m, c, r, rfl, d3, _⟩, b3⟩
  have HB3 := btr HB2 b3 HB2.out.size
  have HIN3 := rin HIN2 b3
  have Da := lid' d3
  clear b3 d3 HM HB2 HIN2
  go_wp2_with fail
  have ab := ab2 w3 (.cells #[.slice A m c, .int .i64 (r : Int)] 24)
  replace HIN3 := rin HIN3 ab
  replace Da := rdn Da ab
  have Xa := nb2 w3 (.slice A m c) (.int .i64 (r : Int)) 24
  have Bl1 := btr HB3 ab HB3.out.size
  clear HB3
  clear ab
  generalize w3.alloc (.cells #[.slice A m c, .int .i64 (r : Int)] 24) = x1 at *
  generalize w3.heap.size = g1 at *
  with_reducible refine (six_restrict v true Da HLOW hv64 HIN3 E_high).mono ?_
  rintro e w2_ ⟨⟨A2, m2, c2, r2, rfl, d2, _⟩, b2⟩
  replace HIN3 := rin HIN3 b2
  replace Da := rdn Da b2
  replace Xa := rb2 Xa b2
  have Bl2 := btr Bl1 b2 Bl1.out.size
  clear Bl1
  clear b2
  have Dh := lid' d2
  clear d2
  obtain ⟨pXa, qXa, nXa⟩ := xb2 Xa
  go_wp2_with fail
  clear pXa qXa nXa
  have ab := ab2 w2_ (.cells #[.slice A2 m2 c2, .int .i64 (r2 : Int)] 24)
  replace HIN3 := rin HIN3 ab
  replace Da := rdn Da ab
  replace Xa := rb2 Xa ab
  replace Dh := rdn Dh ab
  have Xh := nb2 w2_ (.slice A2 m2 c2) (.int .i64 (r2 : Int)) 24
  have Bl3 := btr Bl2 ab Bl2.out.size
  clear Bl2
  clear ab
  generalize w2_.alloc (.cells #[.slice A2 m2 c2, .int .i64 (r2 : Int)] 24) = x3 at *
  generalize w2_.heap.size = g3 at *
  with_reducible refine (six_restrict v false Da HLOW hv64 HIN3 E_low).mono ?_
  rintro e w4_ ⟨⟨A4, m4, c4, r4, rfl, d4, _⟩, b4⟩
  replace HIN3 := rin HIN3 b4
  replace Da := rdn Da b4
  replace Xa := rb2 Xa b4
  replace Dh := rdn Dh b4
  replace Xh := rb2 Xh b4
  have Bl4 := btr Bl3 b4 Bl3.out.size
  clear Bl3
  clear b4
  have Dl := lid' d4
  clear d4
  obtain ⟨pXa, qXa, nXa⟩ := xb2 Xa
  go_wp2_with fail
  clear pXa qXa nXa
  have ab := ab2 w4_ (.cells #[.slice A4 m4 c4, .int .i64 (r4 : Int)] 24)
  replace HIN3 := rin HIN3 ab
  replace Da := rdn Da ab
  replace Xa := rb2 Xa ab
  replace Dh := rdn Dh ab
  replace Xh := rb2 Xh ab
  replace Dl := rdn Dl ab
  have Xl := nb2 w4_ (.slice A4 m4 c4) (.int .i64 (r4 : Int)) 24
  have Bl5 := btr Bl4 ab Bl4.out.size
  clear Bl4
  clear ab
  generalize w4_.alloc (.cells #[.slice A4 m4 c4, .int .i64 (r4 : Int)] 24) = x5 at *
  generalize w4_.heap.size = g5 at *
  with_reducible refine (six_exists v Da HLOW hv64 HIN3 E_some).mono ?_
  rintro e w6_ ⟨⟨A6, m6, c6, r6, rfl, d6, _⟩, b6⟩
  replace HIN3 := rin HIN3 b6
  replace Da := rdn Da b6
  replace Xa := rb2 Xa b6
  replace Dh := rdn Dh b6
  replace Xh := rb2 Xh b6
  replace Dl := rdn Dl b6
  replace Xl := rb2 Xl b6
  have Bl6 := btr Bl5 b6 Bl5.out.size
  clear Bl5
  clear b6
  have Ds := lid' d6
  clear d6
  go_wp2_with fail
  have ab := ab2 w6_ (.cells #[.slice A6 m6 c6, .int .i64 (r6 : Int)] 24)
  replace HIN3 := rin HIN3 ab
  replace Da := rdn Da ab
  replace Xa := rb2 Xa ab
  replace Dh := rdn Dh ab
  replace Xh := rb2 Xh ab
  replace Dl := rdn Dl ab
  replace Xl := rb2 Xl ab
  replace Ds := rdn Ds ab
  have Xs := nb2 w6_ (.slice A6 m6 c6) (.int .i64 (r6 : Int)) 24
  have Bl7 := btr Bl6 ab Bl6.out.size
  clear Bl6
  clear ab
  generalize w6_.alloc (.cells #[.slice A6 m6 c6, .int .i64 (r6 : Int)] 24) = x7 at *
  generalize w6_.heap.size = g7 at *
  with_reducible refine (s_var v (v : Int) rfl x7 HCV.out hv64).mono ?_
  rintro e w8_ ⟨A8, c8, rfl, d8, b8⟩
  replace HIN3 := rin HIN3 b8
  replace Da := rdn Da b8
  replace Xa := rb2 Xa b8
  replace Dh := rdn Dh b8
  replace Xh := rb2 Xh b8
  replace Dl := rdn Dl b8
  replace Xl := rb2 Xl b8
  replace Ds := rdn Ds b8
  replace Xs := rb2 Xs b8
  have Bl8 := btr Bl7 b8 Bl7.out.size
  clear Bl7
  clear b8
  have Dv := lid' d8
  clear d8
  obtain ⟨pXh, qXh, nXh⟩ := xb2 Xh
  obtain ⟨pXl, qXl, nXl⟩ := xb2 Xl
  go_wp2_with fail
  clear pXh qXh nXh pXl qXl nXl
  have ab := ab2 w8_ (.cells #[.slice A8 1 c8, .int .i64 2] 24)
  replace HIN3 := rin HIN3 ab
  replace Da := rdn Da ab
  replace Xa := rb2 Xa ab
  replace Dh := rdn Dh ab
  replace Xh := rb2 Xh ab
  replace Dl := rdn Dl ab
  replace Xl := rb2 Xl ab
  replace Ds := rdn Ds ab
  replace Xs := rb2 Xs ab
  replace Dv := rdn Dv ab
  have Xv := nb2 w8_ (.slice A8 1 c8) (.int .i64 2) 24
  have Bl9 := btr Bl8 ab Bl8.out.size
  clear Bl8
  clear ab
  generalize w8_.alloc (.cells #[.slice A8 1 c8, .int .i64 2] 24) = x9 at *
  generalize w8_.heap.size = g9 at *
  with_reducible refine (six_chooseR (R0 := 2) (r0 := 2) rfl Dv Dh Dl LH LL HLOW HIN3 E_back).mono ?_
  rintro e w10_ ⟨⟨A10, m10, c10, r10, rfl, d10, _⟩, b10⟩
  replace HIN3 := rin HIN3 b10
  replace Da := rdn Da b10
  replace Xa := rb2 Xa b10
  replace Dh := rdn Dh b10
  replace Xh := rb2 Xh b10
  replace Dl := rdn Dl b10
  replace Xl := rb2 Xl b10
  replace Ds := rdn Ds b10
  replace Xs := rb2 Xs b10
  replace Dv := rdn Dv b10
  replace Xv := rb2 Xv b10
  have Bl10 := btr Bl9 b10 Bl9.out.size
  clear Bl9
  clear b10
  have Db := lid' d10
  clear d10
  obtain ⟨pXh, qXh, nXh⟩ := xb2 Xh
  obtain ⟨pXl, qXl, nXl⟩ := xb2 Xl
  go_wp2_with fail
  clear pXh qXh nXh pXl qXl nXl
  have ab := ab2 w10_ (.cells #[.slice A10 m10 c10, .int .i64 (r10 : Int)] 24)
  replace HIN3 := rin HIN3 ab
  replace Da := rdn Da ab
  replace Xa := rb2 Xa ab
  replace Dh := rdn Dh ab
  replace Xh := rb2 Xh ab
  replace Dl := rdn Dl ab
  replace Xl := rb2 Xl ab
  replace Ds := rdn Ds ab
  replace Xs := rb2 Xs ab
  replace Dv := rdn Dv ab
  replace Xv := rb2 Xv ab
  replace Db := rdn Db ab
  have Xb := nb2 w10_ (.slice A10 m10 c10) (.int .i64 (r10 : Int)) 24
  have Bl11 := btr Bl10 ab Bl10.out.size
  clear Bl10
  clear ab
  generalize w10_.alloc (.cells #[.slice A10 m10 c10, .int .i64 (r10 : Int)] 24) = x11 at *
  generalize w10_.heap.size = g11 at *
  with_reducible refine (six_or Dh Dl LH LL HIN3 E_union).mono ?_
  rintro e w12_ ⟨⟨A12, m12, c12, r12, rfl, d12, _⟩, b12⟩
  replace HIN3 := rin HIN3 b12
  replace Da := rdn Da b12
  replace Xa := rb2 Xa b12
  replace Dh := rdn Dh b12
  replace Xh := rb2 Xh b12
  replace Dl := rdn Dl b12
  replace Xl := rb2 Xl b12
  replace Ds := rdn Ds b12
  replace Xs := rb2 Xs b12
  replace Dv := rdn Dv b12
  replace Xv := rb2 Xv b12
  replace Db := rdn Db b12
  replace Xb := rb2 Xb b12
  have Bl12 := btr Bl11 b12 Bl11.out.size
  clear Bl11
  clear b12
  have Du := lid' d12
  clear d12
  obtain ⟨pXh, qXh, nXh⟩ := xb2 Xh
  go_wp2_with fail
  clear pXh qXh nXh
  have ab := ab2 w12_ (.cells #[.slice A12 m12 c12, .int .i64 (r12 : Int)] 24)
  replace HIN3 := rin HIN3 ab
  replace Da := rdn Da ab
  replace Xa := rb2 Xa ab
  replace Dh := rdn Dh ab
  replace Xh := rb2 Xh ab
  replace Dl := rdn Dl ab
  replace Xl := rb2 Xl ab
  replace Ds := rdn Ds ab
  replace Xs := rb2 Xs ab
  replace Dv := rdn Dv ab
  replace Xv := rb2 Xv ab
  replace Db := rdn Db ab
  replace Xb := rb2 Xb ab
  replace Du := rdn Du ab
  have Xu := nb2 w12_ (.slice A12 m12 c12) (.int .i64 (r12 : Int)) 24
  have Bl13 := btr Bl12 ab Bl12.out.size
  clear Bl12
  clear ab
  generalize w12_.alloc (.cells #[.slice A12 m12 c12, .int .i64 (r12 : Int)] 24) = x13 at *
  generalize w12_.heap.size = g13 at *
  with_reducible refine (six_restrict v false Dh LH hv64 HIN3 E_same).mono ?_
  rintro e w14_ ⟨⟨A14, m14, c14, r14, rfl, d14, _⟩, b14⟩
  replace HIN3 := rin HIN3 b14
  replace Da := rdn Da b14
  replace Xa := rb2 Xa b14
  replace Dh := rdn Dh b14
  replace Xh := rb2 Xh b14
  replace Dl := rdn Dl b14
  replace Xl := rb2 Xl b14
  replace Ds := rdn Ds b14
  replace Xs := rb2 Xs b14
  replace Dv := rdn Dv b14
  replace Xv := rb2 Xv b14
  replace Db := rdn Db b14
  replace Xb := rb2 Xb b14
  replace Du := rdn Du b14
  replace Xu := rb2 Xu b14
  have Bl14 := btr Bl13 b14 Bl13.out.size
  clear Bl13
  clear b14
  have Dm := lid' d14
  clear d14
  obtain ⟨pXb, qXb, nXb⟩ := xb2 Xb
  obtain ⟨pXa, qXa, nXa⟩ := xb2 Xa
  go_wp2_with fail
  clear pXb qXb nXb pXa qXa nXa
  have ab := ab2 w14_ (.cells #[.slice A14 m14 c14, .int .i64 (r14 : Int)] 24)
  replace HIN3 := rin HIN3 ab
  replace Da := rdn Da ab
  replace Xa := rb2 Xa ab
  replace Dh := rdn Dh ab
  replace Xh := rb2 Xh ab
  replace Dl := rdn Dl ab
  replace Xl := rb2 Xl ab
  replace Ds := rdn Ds ab
  replace Xs := rb2 Xs ab
  replace Dv := rdn Dv ab
  replace Xv := rb2 Xv ab
  replace Db := rdn Db ab
  replace Xb := rb2 Xb ab
  replace Du := rdn Du ab
  replace Xu := rb2 Xu ab
  replace Dm := rdn Dm ab
  have Xm := nb2 w14_ (.slice A14 m14 c14) (.int .i64 (r14 : Int)) 24
  have Bl15 := btr Bl14 ab Bl14.out.size
  clear Bl14
  clear ab
  generalize w14_.alloc (.cells #[.slice A14 m14 c14, .int .i64 (r14 : Int)] 24) = x15 at *
  generalize w14_.heap.size = g15 at *
  with_reducible refine (same_dn Db Da rfl rfl true hsameE).mono ?_
  rintro e w16_ ⟨rfl, b16⟩
  replace HIN3 := rin HIN3 b16
  replace Da := rdn Da b16
  replace Xa := rb2 Xa b16
  replace Dh := rdn Dh b16
  replace Xh := rb2 Xh b16
  replace Dl := rdn Dl b16
  replace Xl := rb2 Xl b16
  replace Ds := rdn Ds b16
  replace Xs := rb2 Xs b16
  replace Dv := rdn Dv b16
  replace Xv := rb2 Xv b16
  replace Db := rdn Db b16
  replace Xb := rb2 Xb b16
  replace Du := rdn Du b16
  replace Xu := rb2 Xu b16
  replace Dm := rdn Dm b16
  replace Xm := rb2 Xm b16
  have Bl16 := btr Bl15 b16 Bl15.out.size
  clear Bl15
  clear b16
  obtain ⟨pXs, qXs, nXs⟩ := xb2 Xs
  obtain ⟨pXu, qXu, nXu⟩ := xb2 Xu
  go_wp2_with fail
  clear pXs qXs nXs pXu qXu nXu
  with_reducible refine (same_dn Ds Du rfl rfl true hsameE).mono ?_
  rintro e w17_ ⟨rfl, b17⟩
  replace HIN3 := rin HIN3 b17
  replace Da := rdn Da b17
  replace Xa := rb2 Xa b17
  replace Dh := rdn Dh b17
  replace Xh := rb2 Xh b17
  replace Dl := rdn Dl b17
  replace Xl := rb2 Xl b17
  replace Ds := rdn Ds b17
  replace Xs := rb2 Xs b17
  replace Dv := rdn Dv b17
  replace Xv := rb2 Xv b17
  replace Db := rdn Db b17
  replace Xb := rb2 Xb b17
  replace Du := rdn Du b17
  replace Xu := rb2 Xu b17
  replace Dm := rdn Dm b17
  replace Xm := rb2 Xm b17
  have Bl17 := btr Bl16 b17 Bl16.out.size
  clear Bl16
  clear b17
  obtain ⟨pXm, qXm, nXm⟩ := xb2 Xm
  obtain ⟨pXh, qXh, nXh⟩ := xb2 Xh
  go_wp2_with fail
  clear pXm qXm nXm pXh qXh nXh
  with_reducible refine (same_dn Dm Dh rfl rfl true hsameE).mono ?_
  rintro e w18_ ⟨rfl, b18⟩
  replace HIN3 := rin HIN3 b18
  replace Da := rdn Da b18
  replace Xa := rb2 Xa b18
  replace Dh := rdn Dh b18
  replace Xh := rb2 Xh b18
  replace Dl := rdn Dl b18
  replace Xl := rb2 Xl b18
  replace Ds := rdn Ds b18
  replace Xs := rb2 Xs b18
  replace Dv := rdn Dv b18
  replace Xv := rb2 Xv b18
  replace Db := rdn Db b18
  replace Xb := rb2 Xb b18
  replace Du := rdn Du b18
  replace Xu := rb2 Xu b18
  replace Dm := rdn Dm b18
  replace Xm := rb2 Xm b18
  have Bl18 := btr Bl17 b18 Bl17.out.size
  clear Bl17
  clear b18
  go_wp2
  go_ret
  exact ⟨rfl, Bl18.out⟩

end Go.Proofs.YtpeahjfkiehniaaDoor
