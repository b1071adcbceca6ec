/-
  DiagramLeast: the least configuration is in the set, no lesser one over these conditions is, and there is none only in the empty set.
-/
import Derived.Test.YtpeahjfkiehniaaDoorMk
import Derived.Test.YtpeahjfkiehniaaDoorMi
namespace Go.Proofs.YtpeahjfkiehniaaDoor
open Go.RowKit Dg St

theorem isl_at {f : Cfg → Bool} {x : Nat} (h : IsL f x) : f (cf x) = true := h.1
theorem isl_64 {f : Cfg → Bool} {x : Nat} (h : Low 6 f) (hx : IsL f x) : x < 64 := by
  have h1 : f (cf (x % 64)) = f (cf x) := h _ _ (fun i hi => by
    show (x % 2 ^ 6).testBit i = x.testBit i
    rw [Nat.testBit_mod_two_pow, decide_eq_true hi]; rfl)
  have := hx.2 (x % 64) (by rw [h1]; exact hx.1)
  omega
/-- the state of the law: the diagram's box is block g -/
structure LeS (w wr : World) (g : Nat) (A : Option Addr) (m c r : Nat) (f : Cfg → Bool) : Prop where
  bel : Below w.heap.size w wr
  box : B2 wr g (.slice A m c) (.int .i64 (r : Int))
  dn : Dn wr A m c r f
theorem LeS.below {w wr w' : World} {g m c r : Nat} {A : Option Addr} {f : Cfg → Bool} (h : LeS w wr g A m c r f) (hb : Below wr.heap.size wr w') : LeS w w' g A m c r f := ⟨h.bel.trans (hb.mono h.bel.size), h.box.below (by omega) hb, h.dn.below hb⟩
theorem LeS.below' {w wr w' : World} {g m c r : Nat} {A : Option Addr} {f : Cfg → Bool} (h : LeS w wr g A m c r f) (hb : Below wr.drew.heap.size wr.drew w') : LeS w w' g A m c r f := (h.below (Below.refl wr.heap.size wr).drew).below hb
theorem constant_nil' (w : World) : Calls Tryd.prog 52 #[.bool false] w fun e w' => e = .returned (.agg #[.slice none 0 0, .int .i64 0]) ∧ Below w.heap.size w w' := constant_any false w
theorem dn_false' (w : World) : Dn w none 0 0 0 (fun _ => false) := ⟨by rw [cn_const]; exact Rd.nil, by rw [cn_const]; rfl, by rw [cn_const]; rfl, Nat.le_refl _, by omega, d64_const _⟩

set_option maxHeartbeats 4000000 in
set_option maxRecDepth 100000 in
theorem lawLea_walk (N nn cc : Nat) (A8 : Option Addr) (l : List Nat) (w : World) (hN : N < 256) (h8 : Hid (R8 w A8 nn l)) (hnn : nn ≤ 9223372036854775807) (HIN : Hid (Ins w 0)) :
    Calls Tryd.prog 11 #[.agg #[.slice A8 nn cc, .int .u8 (N : Int)]] w fun e w' => e = .returned (.bool true) ∧ Below w.heap.size w w' := by
  have X0 := nb2 w (.slice A8 nn cc) (.int .u8 (N : Int)) 54
  have HB0 := Lib.hid (ab2 w (.cells #[.slice A8 nn cc, .int .u8 (N : Int)] 54))
  have HIN0 := rin HIN HB0.out
  have hm : ∀ w', Below w.heap.size w w' → Calls Tryd.prog 51 #[.agg #[.slice A8 nn cc, .int .u8 (N : Int)]] w' fun e w'' => DiaOk w' w'' (sset l N) e :=
    fun w' hb => lmade_ok N nn cc A8 l w' (Lib.hid (h8.out.below hb)) hN hnn
  have HM := Lib.hid hm
  have HLOW := Lib.hid (sset_low l N)
  clear hm
  generalize sset l N = f at *
  go_enter Tryd.func11, Tryd.ntmps11
  go_wp2_with fail
  with_reducible refine (sanity_ok _ HIN0).mono ?_
  rintro e w2 ⟨rfl, b2⟩
  have X2 := rb2 X0 b2
  have HB2 := btr HB0 b2 HB0.out.size
  clear b2
  obtain ⟨x0, x1, xn⟩ := xb2 X2
  go_wp2_with fail
  clear x0 x1 xn
  with_reducible refine (HM.out _ HB2.out).mono ?_
  rintro e w3 ⟨⟨A, m, c, r, rfl, d3, _⟩, b3⟩
  have HB3 := btr HB2 b3 HB2.out.size
  have D3 := lid' d3
  clear b3 d3
  by_cases hr : r = 0
  · subst hr
    have HEM : Hid (f = fun _ => false) := (cn_zero D3.out.d).1 D3.out.rt
    go_wp2_with fail
    have HS : Hid (LeS w (w3.alloc (.cells #[.slice A m c, .int .i64 0] 24)) w3.heap.size A m c 0 f) :=
      ⟨HB3.out.trans ((ab2 w3 (.cells #[.slice A m c, .int .i64 0] 24)).mono HB3.out.size), (nb2 w3 (.slice A m c) (.int .i64 0) 24).out, D3.out.below (ab2 _ _)⟩
    with_reducible refine (least_zero m c A f _ (lid' HS.out.dn)).mono ?_
    rintro e w5 ⟨rfl, b5⟩
    have HS5 := lid' (HS.out.below b5)
    clear b5
    have hbx : Hid (B2 w5 w3.heap.size (.slice A m c) (.int .i64 0)) := HS5.out.box
    obtain ⟨y0, y1, yn⟩ := xb2 hbx
    go_wp2
    go_region_law ((first
      | (go_simp; go_at_call 52; (with_reducible refine (constant_nil' w5.drew).mono ?_); rintro e w6 ⟨rfl, b6'⟩; have HS6 := lid' (HS5.out.below' b6'); have hbx6 : Hid (B2 w6 w3.heap.size (.slice A m c) (.int .i64 0)) := HS6.out.box; obtain ⟨z0, z1, zn⟩ := xb2 hbx6; clear b6')
      | (go_simp; go_at_call 24; (with_reducible refine (same_dn (w := w6) (R := 0) (R' := 0) (lid' HS6.out.dn) (lid' (dn_false' w6)) rfl rfl true (lid' ⟨fun _ => HEM.out, fun _ => rfl⟩)).mono ?_); rintro e w7 ⟨rfl, b7⟩; have HS7 := lid' (HS6.out.below b7); clear b7)))
    all_goals
      go_wp2
      go_ret
      refine ⟨?_, HS7.out.bel⟩
      go_simp
  · have HR : Hid (r ≠ 0) := hr
    clear hr
    go_wp2_with fail
    have HS : Hid (LeS w (w3.alloc (.cells #[.slice A m c, .int .i64 (r : Int)] 24)) w3.heap.size A m c r f) :=
      ⟨HB3.out.trans ((ab2 w3 (.cells #[.slice A m c, .int .i64 (r : Int)] 24)).mono HB3.out.size), (nb2 w3 (.slice A m c) (.int .i64 (r : Int)) 24).out, D3.out.below (ab2 _ _)⟩
    with_reducible refine (least_some m c r A f _ (lid' HS.out.dn) HR).mono ?_
    rintro e w5 ⟨⟨x, rfl, hx, _⟩, b5⟩
    have HS5 := lid' (HS.out.below b5)
    have h64 := isl_64 HLOW.out hx
    have HX := lid' hx
    clear b5 hx
    generalize w3.heap.size = g at *
    go_wp2
    go_loopw [7] (fun kk wr => ∃ k : Nat, k ≤ x ∧ kk = .int .u64 (k : Int) ∧ Hid (LeS w wr g A m c r f)) (fun kk _ => x - (intOf kk).toNat)
    case atStart => exact ⟨0, Nat.zero_le _, rfl, HS5.out⟩
    case round =>
      obtain ⟨k, hk, rfl, hst⟩ := hrel
      obtain ⟨y0, y1, yn⟩ := xb2 (lid' hst.out.box)
      by_cases hlt : k < x
      · have hf : f (cf k) = false := by
          rcases hv : f (cf k) with _ | _
          · rfl
          · have := HX.out.2 k hv; omega
        have HF := lid' hf
        have i1 : (k : Int) < (x : Int) := by omega
        have i2 : (k : Int) < 64 := by omega
        clear hf
        go_wp2_with fail
        with_reducible refine (s_holds (x := k) (lid' hst.out.dn) rfl rfl (by omega) false HF.out).mono ?_
        rintro e w6 ⟨rfl, b6⟩
        have HS6 := lid' (hst.out.below b6)
        clear b6 y0 y1 yn
        go_wp2
        go_roundw
        case rel => exact ⟨k + 1, by omega, by go_num, HS6.out⟩
        case measure => simp [intOf]; omega
      · obtain rfl : k = x := by omega
        go_wp2_with fail
        with_reducible refine (s_holds (x := k) (lid' hst.out.dn) rfl rfl (by omega) true (isl_at HX.out)).mono ?_
        rintro e w6 ⟨rfl, b6⟩
        have HS6 := lid' (hst.out.below b6)
        clear b6 y0 y1 yn
        go_wp2
        go_ret
        exact ⟨rfl, HS6.out.bel⟩

end Go.Proofs.YtpeahjfkiehniaaDoor
