/-
  DiagramAlgebra: the laws of a Boolean algebra hold as equalities of diagrams. (Written by lalg.py.)
-/
import Derived.Test.YtpeahjfkiehniaaDoorMk
import Derived.Test.YtpeahjfkiehniaaDoorMi
import Derived.Test.YtpeahjfkiehniaaDoorMq
import Derived.Test.YtpeahjfkiehniaaDoorMr
import Derived.Test.YtpeahjfkiehniaaDoorMo
namespace Go.Proofs.YtpeahjfkiehniaaDoor
open Go.RowKit Dg St
attribute [local go_sem ↓] Go.wp_at_zero Go.wp_at_succ

theorem fx2 {p : Bool → Bool → Bool} {q : Bool → Bool → Bool} (h : ∀ x y, p x y = q x y) (f g : Cfg → Bool) : (fun x => p (f x) (g x)) = fun x => q (f x) (g x) := funext fun x => h (f x) (g x)
theorem hsame {f : Cfg → Bool} : Hid (true = true ↔ f = f) := Lib.hid ⟨fun _ => rfl, fun _ => rfl⟩
theorem const_nil4 (w : World) : Calls Tryd.prog 52 #[.bool false] w fun e w' => e = .returned (.agg #[.slice none 0 0, .int .i64 0]) ∧ Below w.heap.size w w' := constant_any false w
theorem const_one4 (w : World) : Calls Tryd.prog 52 #[.bool true] w fun e w' => e = .returned (.agg #[.slice none 0 0, .int .i64 1]) ∧ Below w.heap.size w w' := constant_any true w
theorem dn_false4 (w : World) : Dn w none 0 0 0 (fun _ => false) := ⟨by rw [cn_const]; exact Rd.nil, by rw [cn_const]; rfl, by rw [cn_const]; rfl, Nat.le_refl _, by omega, d64_const _⟩
theorem dn_true4 (w : World) : Dn w none 0 0 1 (fun _ => true) := ⟨by rw [cn_const]; exact Rd.nil, by rw [cn_const]; rfl, by rw [cn_const]; rfl, Nat.le_refl _, by omega, d64_const _⟩

set_option maxHeartbeats 8000000 in
set_option maxRecDepth 100000 in
theorem lawAlg_walk (N0 n0 c0 : Nat) (A0 : Option Addr) (l0 : List Nat) (N1 n1 c1 : Nat) (A1 : Option Addr) (l1 : List Nat) (N2 n2 c2 : Nat) (A2 : Option Addr) (l2 : List Nat) (w : World) (hN0 : N0 < 256) (h80 : Hid (R8 w A0 n0 l0)) (hn0 : n0 ≤ 9223372036854775807) (hN1 : N1 < 256) (h81 : Hid (R8 w A1 n1 l1)) (hn1 : n1 ≤ 9223372036854775807) (hN2 : N2 < 256) (h82 : Hid (R8 w A2 n2 l2)) (hn2 : n2 ≤ 9223372036854775807) (HIN : Hid (Ins w 0)) :
    Calls Tryd.prog 7 #[.agg #[.slice A0 n0 c0, .int .u8 (N0 : Int), .slice A1 n1 c1, .int .u8 (N1 : Int), .slice A2 n2 c2, .int .u8 (N2 : Int)]] w fun e w' => e = .returned (.bool true) ∧ Below w.heap.size w w' := by
  have XR : Hid (Blk (w.alloc (.cells #[.slice A0 n0 c0, .int .u8 (N0 : Int), .slice A1 n1 c1, .int .u8 (N1 : Int), .slice A2 n2 c2, .int .u8 (N2 : Int)] 61)) w.heap.size 6 (fun i => [(.slice A0 n0 c0 : Value), (.int .u8 (N0 : Int) : Value), (.slice A1 n1 c1 : Value), (.int .u8 (N1 : Int) : Value), (.slice A2 n2 c2 : Value), (.int .u8 (N2 : Int) : Value)].getD i undef)) := Lib.hid (Blk.new (w := w) rfl [.slice A0 n0 c0, .int .u8 (N0 : Int), .slice A1 n1 c1, .int .u8 (N1 : Int), .slice A2 n2 c2, .int .u8 (N2 : Int)] 61)
  have HB0 := Lib.hid (ab2 w (.cells #[.slice A0 n0 c0, .int .u8 (N0 : Int), .slice A1 n1 c1, .int .u8 (N1 : Int), .slice A2 n2 c2, .int .u8 (N2 : Int)] 61))
  have HIN0 := rin HIN HB0.out
  have hm0 : ∀ w', Below w.heap.size w w' → Calls Tryd.prog 51 #[.agg #[.slice A0 n0 c0, .int .u8 (N0 : Int)]] w' fun e w'' => DiaOk w' w'' (sset l0 N0) e :=
    fun w' hb => lmade_ok N0 n0 c0 A0 l0 w' (Lib.hid (h80.out.below hb)) hN0 hn0
  have HL0 := Lib.hid (sset_low l0 N0)
  have hm1 : ∀ w', Below w.heap.size w w' → Calls Tryd.prog 51 #[.agg #[.slice A1 n1 c1, .int .u8 (N1 : Int)]] w' fun e w'' => DiaOk w' w'' (sset l1 N1) e :=
    fun w' hb => lmade_ok N1 n1 c1 A1 l1 w' (Lib.hid (h81.out.below hb)) hN1 hn1
  have HL1 := Lib.hid (sset_low l1 N1)
  have hm2 : ∀ w', Below w.heap.size w w' → Calls Tryd.prog 51 #[.agg #[.slice A2 n2 c2, .int .u8 (N2 : Int)]] w' fun e w'' => DiaOk w' w'' (sset l2 N2) e :=
    fun w' hb => lmade_ok N2 n2 c2 A2 l2 w' (Lib.hid (h82.out.below hb)) hN2 hn2
  have HL2 := Lib.hid (sset_low l2 N2)
  generalize sset l0 N0 = fa at *
  generalize sset l1 N1 = fb at *
  generalize sset l2 N2 = fc at *
  go_enter Tryd.func7, Tryd.ntmps7
  go_wp2_with fail
  with_reducible refine (sanity_ok _ HIN0).mono ?_
  rintro e w2 ⟨rfl, b2⟩
  replace XR := lid' (XR.out.below (by omega) b2)
  have HB2 := btr HB0 b2 HB0.out.size
  have HIN2 := rin HIN0 b2
  clear b2 HB0 HIN0
  have HM0 : Hid (∀ w', Below w2.heap.size w2 w' → Calls Tryd.prog 51 #[.agg #[.slice A0 n0 c0, .int .u8 (N0 : Int)]] w' fun e w'' => DiaOk w' w'' fa e) := fun w' hb => hm0 w' (HB2.out.trans (hb.mono HB2.out.size))
  have HM1 : Hid (∀ w', Below w2.heap.size w2 w' → Calls Tryd.prog 51 #[.agg #[.slice A1 n1 c1, .int .u8 (N1 : Int)]] w' fun e w'' => DiaOk w' w'' fb e) := fun w' hb => hm1 w' (HB2.out.trans (hb.mono HB2.out.size))
  have HM2 : Hid (∀ w', Below w2.heap.size w2 w' → Calls Tryd.prog 51 #[.agg #[.slice A2 n2 c2, .int .u8 (N2 : Int)]] w' fun e w'' => DiaOk w' w'' fc e) := fun w' hb => hm2 w' (HB2.out.trans (hb.mono HB2.out.size))
  clear hm0 hm1 hm2
  obtain ⟨ff, hff0, hff1, hff2⟩ : ∃ ff : Nat → Cfg → Bool, ff 0 = fa ∧ ff 1 = fb ∧ ff 2 = fc := ⟨fun i => if i = 0 then fa else if i = 1 then fb else fc, rfl, rfl, rfl⟩
  obtain ⟨argv, hav0, hav1, hav2⟩ : ∃ argv : Nat → Value, argv 0 = .agg #[.slice A0 n0 c0, .int .u8 (N0 : Int)] ∧ argv 1 = .agg #[.slice A1 n1 c1, .int .u8 (N1 : Int)] ∧ argv 2 = .agg #[.slice A2 n2 c2, .int .u8 (N2 : Int)] := ⟨fun i => if i = 0 then .agg #[.slice A0 n0 c0, .int .u8 (N0 : Int)] else if i = 1 then .agg #[.slice A1 n1 c1, .int .u8 (N1 : Int)] else .agg #[.slice A2 n2 c2, .int .u8 (N2 : Int)], rfl, rfl, rfl⟩
  obtain ⟨iv', hiw0, hiw1, hiw2⟩ : ∃ iv' : Nat → Value, iv' 0 = .pointer (some ⟨w.heap.size, 0, none⟩) ∧ iv' 1 = .pointer (some ⟨w.heap.size, 2, none⟩) ∧ iv' 2 = .pointer (some ⟨w.heap.size, 4, none⟩) := ⟨fun i => if i = 0 then .pointer (some ⟨w.heap.size, 0, none⟩) else if i = 1 then .pointer (some ⟨w.heap.size, 2, none⟩) else .pointer (some ⟨w.heap.size, 4, none⟩), rfl, rfl, rfl⟩
  rw [← hff0] at HM0
  rw [← hff1] at HM1
  rw [← hff2] at HM2
  go_wp2
  refine wp_region_any (by kernel_rfl) ?_
  change wpAny _ _ _ _ _ _ _ (World.drew _)
  refine wpAny_named (fun a0 ha0 => ?_)
  refine wpAny_inv (fun l a' w' => ∃ (bi bl bc ba bs : Nat → Bool) (vi vl vc vp : Nat → Value) (D : MkD), l = #[bi 0, bl 0, bc 0, bi 1, bl 1, bc 1, bi 2, bl 2, bc 2, ba 0, ba 1, ba 2, bs 0, bs 1, bs 2] ∧ a' = ((((((((((((a0.put (some 41) (vi 0)).put (some 44) (vi 1)).put (some 47) (vi 2)).put (some 42) (vl 0)).put (some 45) (vl 1)).put (some 48) (vl 2)).put (some 43) (vc 0)).put (some 46) (vc 1)).put (some 49) (vc 2)).put (some 4) (vp 0)).put (some 5) (vp 1)).put (some 6) (vp 2)) ∧ (∀ i, bi i = true → vi i = iv' i) ∧ (∀ i, bl i = true → vl i = argv i) ∧ Mks w2 w' ff bc ba bs vc vp D) ?_ ?_ _ _ _ _ ⟨fun _ => false, fun _ => false, fun _ => false, fun _ => false, fun _ => false, fun _ => undef, fun _ => undef, fun _ => undef, fun _ => undef, ⟨fun _ => none, fun _ => 0, fun _ => 0, fun _ => 0, fun _ => 0⟩, rfl, by subst ha0; (simp only [Act.put, List.setIfInBounds_toArray, List.set_cons_succ, List.set_cons_zero] <;> rfl), (fun _ h => by cases h), (fun _ h => by cases h), Mks.start (Below.refl _ _).drew _ _ _ _⟩ (by rfl) (by decide)
  rotate_left
  · rintro l a' w' ⟨bi, bl, bc, ba, bs, vi, vl, vc, vp, D, rfl, rfl, hiv, hv, hM⟩ i hi
    obtain ⟨h0, o, ho, hall⟩ := mem_ready.1 hi
    have hlt : i < 15 := (Array.getElem?_eq_some_iff.1 ho).1
    clear hi
    rcases (by omega : i = 0 ∨ i = 1 ∨ i = 2 ∨ i = 3 ∨ i = 4 ∨ i = 5 ∨ i = 6 ∨ i = 7 ∨ i = 8 ∨ i = 9 ∨ i = 10 ∨ i = 11 ∨ i = 12 ∨ i = 13 ∨ i = 14) with rfl | rfl | rfl | rfl | rfl | rfl | rfl | rfl | rfl | rfl | rfl | rfl | rfl | rfl | rfl
    · replace h0 : bi 0 = false := h0
      have ho' := (Option.some.inj ho).symm
      subst ho'
      clear hall ho
      subst ha0
      refine wpOp_step rfl (fun K hK => ?_)
      go_simp
      refine hK _ _ ⟨up1 bi 0 true, bl, bc, ba, bs, up1 vi 0 (.pointer (some ⟨w.heap.size, 0, none⟩)), vl, vc, vp, D, rfl, by (simp only [Act.put, List.setIfInBounds_toArray, List.set_cons_succ, List.set_cons_zero, up1] <;> rfl), fun q hq => ?_, hv, hM⟩
      by_cases e : q = 0
      · subst e; rw [up1_at]; exact hiw0.symm
      · rw [up1_ne _ _ e] at hq ⊢; exact hiv q hq
    · replace h0 : bl 0 = false := h0
      have ho' := (Option.some.inj ho).symm
      subst ho'
      have k0 : bi 0 = true := hall ⟨0, .data⟩ (by simp) rfl
      have hvi := hiv 0 k0
      rw [hiw0] at hvi
      clear hall ho
      have hx := lid' (XR.out.below (by omega) hM.bel)
      have x0 : w'.cell? ⟨w.heap.size, 0, none⟩ = some (.slice A0 n0 c0) := (hx.out 0 (by omega)).1
      have x1 : w'.cell? ⟨w.heap.size, 1, none⟩ = some (.int .u8 (N0 : Int)) := (hx.out 1 (by omega)).1
      have xn := hx.out.lt (by omega)
      subst ha0
      generalize hww : vi 0 = ww at *
      subst hvi
      refine wpOp_step rfl (fun K hK => ?_)
      go_simp
      refine hK _ _ ⟨bi, up1 bl 0 true, bc, ba, bs, vi, up1 vl 0 (.agg #[.slice A0 n0 c0, .int .u8 (N0 : Int)]), vc, vp, D, rfl, by rw [hww]; (simp only [Act.put, List.setIfInBounds_toArray, List.set_cons_succ, List.set_cons_zero, up1] <;> rfl), hiv, fun q hq => ?_, hM⟩
      by_cases e : q = 0
      · subst e; rw [up1_at]; exact hav0.symm
      · rw [up1_ne _ _ e] at hq ⊢; exact hv q hq
    · replace h0 : bc 0 = false := h0
      have ho' := (Option.some.inj ho).symm
      subst ho'
      have k1 : bl 0 = true := hall ⟨1, .data⟩ (by simp) rfl
      have hvl := hv 0 k1
      rw [hav0] at hvl
      clear hall ho
      subst ha0
      generalize hvv : vl 0 = vv at *
      refine wpOp_step rfl (fun K hK => ?_)
      subst hvl
      go_simp
      go_at_call 51
      with_reducible refine (HM0.out w' hM.bel).mono ?_
      rintro e w9 ⟨⟨A9, m9, c9, r9, rfl, d9, f9⟩, b9⟩
      go_simp
      refine hK _ _ ⟨bi, bl, up1 bc 0 true, ba, bs, vi, vl, up1 vc 0 (.agg #[.slice A9 m9 c9, .int .i64 (r9 : Int)]), vp, _, rfl, by rw [hvv]; (simp only [Act.put, List.setIfInBounds_toArray, List.set_cons_succ, List.set_cons_zero, up1] <;> rfl), hiv, hv, hM.call 0 h0 d9 f9 b9⟩
    · replace h0 : bi 1 = false := h0
      have ho' := (Option.some.inj ho).symm
      subst ho'
      clear hall ho
      subst ha0
      refine wpOp_step rfl (fun K hK => ?_)
      go_simp
      refine hK _ _ ⟨up1 bi 1 true, bl, bc, ba, bs, up1 vi 1 (.pointer (some ⟨w.heap.size, 2, none⟩)), vl, vc, vp, D, rfl, by (simp only [Act.put, List.setIfInBounds_toArray, List.set_cons_succ, List.set_cons_zero, up1] <;> rfl), fun q hq => ?_, hv, hM⟩
      by_cases e : q = 1
      · subst e; rw [up1_at]; exact hiw1.symm
      · rw [up1_ne _ _ e] at hq ⊢; exact hiv q hq
    · replace h0 : bl 1 = false := h0
      have ho' := (Option.some.inj ho).symm
      subst ho'
      have k3 : bi 1 = true := hall ⟨3, .data⟩ (by simp) rfl
      have hvi := hiv 1 k3
      rw [hiw1] at hvi
      clear hall ho
      have hx := lid' (XR.out.below (by omega) hM.bel)
      have x0 : w'.cell? ⟨w.heap.size, 2, none⟩ = some (.slice A1 n1 c1) := (hx.out 2 (by omega)).1
      have x1 : w'.cell? ⟨w.heap.size, 3, none⟩ = some (.int .u8 (N1 : Int)) := (hx.out 3 (by omega)).1
      have xn := hx.out.lt (by omega)
      subst ha0
      generalize hww : vi 1 = ww at *
      subst hvi
      refine wpOp_step rfl (fun K hK => ?_)
      go_simp
      refine hK _ _ ⟨bi, up1 bl 1 true, bc, ba, bs, vi, up1 vl 1 (.agg #[.slice A1 n1 c1, .int .u8 (N1 : Int)]), vc, vp, D, rfl, by rw [hww]; (simp only [Act.put, List.setIfInBounds_toArray, List.set_cons_succ, List.set_cons_zero, up1] <;> rfl), hiv, fun q hq => ?_, hM⟩
      by_cases e : q = 1
      · subst e; rw [up1_at]; exact hav1.symm
      · rw [up1_ne _ _ e] at hq ⊢; exact hv q hq
    · replace h0 : bc 1 = false := h0
      have ho' := (Option.some.inj ho).symm
      subst ho'
      have k4 : bl 1 = true := hall ⟨4, .data⟩ (by simp) rfl
      have hvl := hv 1 k4
      rw [hav1] at hvl
      clear hall ho
      subst ha0
      generalize hvv : vl 1 = vv at *
      refine wpOp_step rfl (fun K hK => ?_)
      subst hvl
      go_simp
      go_at_call 51
      with_reducible refine (HM1.out w' hM.bel).mono ?_
      rintro e w9 ⟨⟨A9, m9, c9, r9, rfl, d9, f9⟩, b9⟩
      go_simp
      refine hK _ _ ⟨bi, bl, up1 bc 1 true, ba, bs, vi, vl, up1 vc 1 (.agg #[.slice A9 m9 c9, .int .i64 (r9 : Int)]), vp, _, rfl, by rw [hvv]; (simp only [Act.put, List.setIfInBounds_toArray, List.set_cons_succ, List.set_cons_zero, up1] <;> rfl), hiv, hv, hM.call 1 h0 d9 f9 b9⟩
    · replace h0 : bi 2 = false := h0
      have ho' := (Option.some.inj ho).symm
      subst ho'
      clear hall ho
      subst ha0
      refine wpOp_step rfl (fun K hK => ?_)
      go_simp
      refine hK _ _ ⟨up1 bi 2 true, bl, bc, ba, bs, up1 vi 2 (.pointer (some ⟨w.heap.size, 4, none⟩)), vl, vc, vp, D, rfl, by (simp only [Act.put, List.setIfInBounds_toArray, List.set_cons_succ, List.set_cons_zero, up1] <;> rfl), fun q hq => ?_, hv, hM⟩
      by_cases e : q = 2
      · subst e; rw [up1_at]; exact hiw2.symm
      · rw [up1_ne _ _ e] at hq ⊢; exact hiv q hq
    · replace h0 : bl 2 = false := h0
      have ho' := (Option.some.inj ho).symm
      subst ho'
      have k6 : bi 2 = true := hall ⟨6, .data⟩ (by simp) rfl
      have hvi := hiv 2 k6
      rw [hiw2] at hvi
      clear hall ho
      have hx := lid' (XR.out.below (by omega) hM.bel)
      have x0 : w'.cell? ⟨w.heap.size, 4, none⟩ = some (.slice A2 n2 c2) := (hx.out 4 (by omega)).1
      have x1 : w'.cell? ⟨w.heap.size, 5, none⟩ = some (.int .u8 (N2 : Int)) := (hx.out 5 (by omega)).1
      have xn := hx.out.lt (by omega)
      subst ha0
      generalize hww : vi 2 = ww at *
      subst hvi
      refine wpOp_step rfl (fun K hK => ?_)
      go_simp
      refine hK _ _ ⟨bi, up1 bl 2 true, bc, ba, bs, vi, up1 vl 2 (.agg #[.slice A2 n2 c2, .int .u8 (N2 : Int)]), vc, vp, D, rfl, by rw [hww]; (simp only [Act.put, List.setIfInBounds_toArray, List.set_cons_succ, List.set_cons_zero, up1] <;> rfl), hiv, fun q hq => ?_, hM⟩
      by_cases e : q = 2
      · subst e; rw [up1_at]; exact hav2.symm
      · rw [up1_ne _ _ e] at hq ⊢; exact hv q hq
    · replace h0 : bc 2 = false := h0
      have ho' := (Option.some.inj ho).symm
      subst ho'
      have k7 : bl 2 = true := hall ⟨7, .data⟩ (by simp) rfl
      have hvl := hv 2 k7
      rw [hav2] at hvl
      clear hall ho
      subst ha0
      generalize hvv : vl 2 = vv at *
      refine wpOp_step rfl (fun K hK => ?_)
      subst hvl
      go_simp
      go_at_call 51
      with_reducible refine (HM2.out w' hM.bel).mono ?_
      rintro e w9 ⟨⟨A9, m9, c9, r9, rfl, d9, f9⟩, b9⟩
      go_simp
      refine hK _ _ ⟨bi, bl, up1 bc 2 true, ba, bs, vi, vl, up1 vc 2 (.agg #[.slice A9 m9 c9, .int .i64 (r9 : Int)]), vp, _, rfl, by rw [hvv]; (simp only [Act.put, List.setIfInBounds_toArray, List.set_cons_succ, List.set_cons_zero, up1] <;> rfl), hiv, hv, hM.call 2 h0 d9 f9 b9⟩
    · replace h0 : ba 0 = false := h0
      have ho' := (Option.some.inj ho).symm
      subst ho'
      clear hall ho
      subst ha0
      refine wpOp_step rfl (fun K hK => ?_)
      go_simp
      exact hK _ _ ⟨bi, bl, bc, up1 ba 0 true, bs, vi, vl, vc, up1 vp 0 (.pointer (some ⟨w'.heap.size, 0, none⟩)), _, rfl, by (simp only [Act.put, List.setIfInBounds_toArray, List.set_cons_succ, List.set_cons_zero, up1] <;> rfl), hiv, hv, hM.laid 0 h0 24⟩
    · replace h0 : ba 1 = false := h0
      have ho' := (Option.some.inj ho).symm
      subst ho'
      clear hall ho
      subst ha0
      refine wpOp_step rfl (fun K hK => ?_)
      go_simp
      exact hK _ _ ⟨bi, bl, bc, up1 ba 1 true, bs, vi, vl, vc, up1 vp 1 (.pointer (some ⟨w'.heap.size, 0, none⟩)), _, rfl, by (simp only [Act.put, List.setIfInBounds_toArray, List.set_cons_succ, List.set_cons_zero, up1] <;> rfl), hiv, hv, hM.laid 1 h0 24⟩
    · replace h0 : ba 2 = false := h0
      have ho' := (Option.some.inj ho).symm
      subst ho'
      clear hall ho
      subst ha0
      refine wpOp_step rfl (fun K hK => ?_)
      go_simp
      exact hK _ _ ⟨bi, bl, bc, up1 ba 2 true, bs, vi, vl, vc, up1 vp 2 (.pointer (some ⟨w'.heap.size, 0, none⟩)), _, rfl, by (simp only [Act.put, List.setIfInBounds_toArray, List.set_cons_succ, List.set_cons_zero, up1] <;> rfl), hiv, hv, hM.laid 2 h0 24⟩
    · replace h0 : bs 0 = false := h0
      have ho' := (Option.some.inj ho).symm
      subst ho'
      have k9 : ba 0 = true := hall ⟨9, .data⟩ (by simp) rfl
      have k2 : bc 0 = true := hall ⟨2, .data⟩ (by simp) rfl
      have hc := hM.pc 0 k2
      have hp := hM.pa 0 k9
      have hz := hM.pz 0 k9 h0
      have hS := hM.stored 0 k2 k9 h0
      obtain ⟨z0, z1⟩ := hz 0 (by omega)
      obtain ⟨y0, y1⟩ := hz 1 (by omega)
      clear hall ho
      subst ha0
      generalize hvc : vc 0 = cc at *
      generalize hvp : vp 0 = pp at *
      subst hc
      subst hp
      refine wpOp_step rfl (fun K hK => ?_)
      go_simp
      exact hK _ _ ⟨bi, bl, bc, ba, up1 bs 0 true, vi, vl, vc, vp, D, rfl, by rw [hvc, hvp]; (simp only [Act.put, List.setIfInBounds_toArray, List.set_cons_succ, List.set_cons_zero] <;> rfl), hiv, hv, hS⟩
    · replace h0 : bs 1 = false := h0
      have ho' := (Option.some.inj ho).symm
      subst ho'
      have k10 : ba 1 = true := hall ⟨10, .data⟩ (by simp) rfl
      have k5 : bc 1 = true := hall ⟨5, .data⟩ (by simp) rfl
      have hc := hM.pc 1 k5
      have hp := hM.pa 1 k10
      have hz := hM.pz 1 k10 h0
      have hS := hM.stored 1 k5 k10 h0
      obtain ⟨z0, z1⟩ := hz 0 (by omega)
      obtain ⟨y0, y1⟩ := hz 1 (by omega)
      clear hall ho
      subst ha0
      generalize hvc : vc 1 = cc at *
      generalize hvp : vp 1 = pp at *
      subst hc
      subst hp
      refine wpOp_step rfl (fun K hK => ?_)
      go_simp
      exact hK _ _ ⟨bi, bl, bc, ba, up1 bs 1 true, vi, vl, vc, vp, D, rfl, by rw [hvc, hvp]; (simp only [Act.put, List.setIfInBounds_toArray, List.set_cons_succ, List.set_cons_zero] <;> rfl), hiv, hv, hS⟩
    · replace h0 : bs 2 = false := h0
      have ho' := (Option.some.inj ho).symm
      subst ho'
      have k11 : ba 2 = true := hall ⟨11, .data⟩ (by simp) rfl
      have k8 : bc 2 = true := hall ⟨8, .data⟩ (by simp) rfl
      have hc := hM.pc 2 k8
      have hp := hM.pa 2 k11
      have hz := hM.pz 2 k11 h0
      have hS := hM.stored 2 k8 k11 h0
      obtain ⟨z0, z1⟩ := hz 0 (by omega)
      obtain ⟨y0, y1⟩ := hz 1 (by omega)
      clear hall ho
      subst ha0
      generalize hvc : vc 2 = cc at *
      generalize hvp : vp 2 = pp at *
      subst hc
      subst hp
      refine wpOp_step rfl (fun K hK => ?_)
      go_simp
      exact hK _ _ ⟨bi, bl, bc, ba, up1 bs 2 true, vi, vl, vc, vp, D, rfl, by rw [hvc, hvp]; (simp only [Act.put, List.setIfInBounds_toArray, List.set_cons_succ, List.set_cons_zero] <;> rfl), hiv, hv, hS⟩
  · rintro l a' w' ⟨bi, bl, bc, ba, bs, vi, vl, vc, vp, D, rfl, rfl, hiv, hv, hM⟩ hr
    have t0 : bi 0 = true := must_run (i := 0) hr rfl (by simp [Region.binds])
    have t1 : bl 0 = true := must_run (i := 1) hr rfl (by simp [Region.binds, t0])
    have t2 : bc 0 = true := must_run (i := 2) hr rfl (by simp [Region.binds, t0, t1])
    have t3 : bi 1 = true := must_run (i := 3) hr rfl (by simp [Region.binds, t0, t1, t2])
    have t4 : bl 1 = true := must_run (i := 4) hr rfl (by simp [Region.binds, t0, t1, t2, t3])
    have t5 : bc 1 = true := must_run (i := 5) hr rfl (by simp [Region.binds, t0, t1, t2, t3, t4])
    have t6 : bi 2 = true := must_run (i := 6) hr rfl (by simp [Region.binds, t0, t1, t2, t3, t4, t5])
    have t7 : bl 2 = true := must_run (i := 7) hr rfl (by simp [Region.binds, t0, t1, t2, t3, t4, t5, t6])
    have t8 : bc 2 = true := must_run (i := 8) hr rfl (by simp [Region.binds, t0, t1, t2, t3, t4, t5, t6, t7])
    have t9 : ba 0 = true := must_run (i := 9) hr rfl (by simp [Region.binds, t0, t1, t2, t3, t4, t5, t6, t7, t8])
    have t10 : ba 1 = true := must_run (i := 10) hr rfl (by simp [Region.binds, t0, t1, t2, t3, t4, t5, t6, t7, t8, t9])
    have t11 : ba 2 = true := must_run (i := 11) hr rfl (by simp [Region.binds, t0, t1, t2, t3, t4, t5, t6, t7, t8, t9, t10])
    have t12 : bs 0 = true := must_run (i := 12) hr rfl (by simp [Region.binds, t0, t1, t2, t3, t4, t5, t6, t7, t8, t9, t10, t11])
    have t13 : bs 1 = true := must_run (i := 13) hr rfl (by simp [Region.binds, t0, t1, t2, t3, t4, t5, t6, t7, t8, t9, t10, t11, t12])
    have t14 : bs 2 = true := must_run (i := 14) hr rfl (by simp [Region.binds, t0, t1, t2, t3, t4, t5, t6, t7, t8, t9, t10, t11, t12, t13])
    have hb9 := lid' hM.bel
    have D_0 := lid' (hM.dn 0 t2)
    have X_0 := lid' (hM.ps 0 t12)
    have hp0 := hM.pa 0 t9
    have D_1 := lid' (hM.dn 1 t5)
    have X_1 := lid' (hM.ps 1 t13)
    have hp1 := hM.pa 1 t10
    have hn01 := hM.ne 0 1 (by omega) t9 t10
    have D_2 := lid' (hM.dn 2 t8)
    have X_2 := lid' (hM.ps 2 t14)
    have hp2 := hM.pa 2 t11
    have hn02 := hM.ne 0 2 (by omega) t9 t11
    have hn12 := hM.ne 1 2 (by omega) t10 t11
    clear hM hr
    subst ha0
    generalize D.A 0 = A_0 at *
    generalize D.m 0 = m_0 at *
    generalize D.c 0 = c_0 at *
    generalize D.r 0 = r_0 at *
    generalize D.h 0 = h_0 at *
    generalize vp 0 = p_0 at *
    subst hp0
    generalize D.A 1 = A_1 at *
    generalize D.m 1 = m_1 at *
    generalize D.c 1 = c_1 at *
    generalize D.r 1 = r_1 at *
    generalize D.h 1 = h_1 at *
    generalize vp 1 = p_1 at *
    subst hp1
    generalize D.A 2 = A_2 at *
    generalize D.m 2 = m_2 at *
    generalize D.c 2 = c_2 at *
    generalize D.r 2 = r_2 at *
    generalize D.h 2 = h_2 at *
    generalize vp 2 = p_2 at *
    subst hp2
    rw [hff0] at D_0
    rw [hff1] at D_1
    rw [hff2] at D_2
    have HB3 := btr HB2 hb9.out HB2.out.size
    have HIN3 := rin HIN2 hb9.out
    clear hb9 hv hiv HM0 HM1 HM2 hff0 hff1 hff2 hav0 hav1 hav2 hiw0 hiw1 hiw2 HB2 HIN2 XR
    obtain ⟨gAnd, hgAnd⟩ : ∃ g : Cfg → Bool, g = fun x => fa x && fb x := ⟨_, rfl⟩
    have LgAnd : Hid (Low 6 gAnd) := show Low 6 gAnd by rw [hgAnd]; exact Low.bin and HL0.out HL1.out
    obtain ⟨gOr, hgOr⟩ : ∃ g : Cfg → Bool, g = fun x => fa x || fb x := ⟨_, rfl⟩
    have LgOr : Hid (Low 6 gOr) := show Low 6 gOr by rw [hgOr]; exact Low.bin or HL0.out HL1.out
    obtain ⟨gAC, hgAC⟩ : ∃ g : Cfg → Bool, g = fun x => fa x && fc x := ⟨_, rfl⟩
    have LgAC : Hid (Low 6 gAC) := show Low 6 gAC by rw [hgAC]; exact Low.bin and HL0.out HL2.out
    obtain ⟨gBC, hgBC⟩ : ∃ g : Cfg → Bool, g = fun x => fb x || fc x := ⟨_, rfl⟩
    have LgBC : Hid (Low 6 gBC) := show Low 6 gBC by rw [hgBC]; exact Low.bin or HL1.out HL2.out
    obtain ⟨gNA, hgNA⟩ : ∃ g : Cfg → Bool, g = fun x => !fa x := ⟨_, rfl⟩
    have LgNA : Hid (Low 6 gNA) := show Low 6 gNA by rw [hgNA]; exact HL0.out.not
    obtain ⟨gNB, hgNB⟩ : ∃ g : Cfg → Bool, g = fun x => !fb x := ⟨_, rfl⟩
    have LgNB : Hid (Low 6 gNB) := show Low 6 gNB by rw [hgNB]; exact HL1.out.not
    obtain ⟨gL, hgL⟩ : ∃ g : Cfg → Bool, g = fun x => fa x && gBC x := ⟨_, rfl⟩
    have LgL : Hid (Low 6 gL) := show Low 6 gL by rw [hgL]; exact Low.bin and HL0.out LgBC.out
    obtain ⟨gNor, hgNor⟩ : ∃ g : Cfg → Bool, g = fun x => !gOr x := ⟨_, rfl⟩
    have LgNor : Hid (Low 6 gNor) := show Low 6 gNor by rw [hgNor]; exact LgOr.out.not
    have E_and : Hid ((fun x => fa x && fb x) = gAnd) := show _ = _ by
      (rw [hgAnd]) <;> (funext x; (try dsimp only); rcases fa x with _ | _ <;> rcases fb x with _ | _ <;> rcases fc x with _ | _ <;> rfl)
    have E_back : Hid ((fun x => fb x && fa x) = gAnd) := show _ = _ by
      (rw [hgAnd]) <;> (funext x; (try dsimp only); rcases fa x with _ | _ <;> rcases fb x with _ | _ <;> rcases fc x with _ | _ <;> rfl)
    have E_or : Hid ((fun x => fa x || fb x) = gOr) := show _ = _ by
      (rw [hgOr]) <;> (funext x; (try dsimp only); rcases fa x with _ | _ <;> rcases fb x with _ | _ <;> rcases fc x with _ | _ <;> rfl)
    have E_ac : Hid ((fun x => fa x && fc x) = gAC) := show _ = _ by
      (rw [hgAC]) <;> (funext x; (try dsimp only); rcases fa x with _ | _ <;> rcases fb x with _ | _ <;> rcases fc x with _ | _ <;> rfl)
    have E_bc : Hid ((fun x => fb x || fc x) = gBC) := show _ = _ by
      (rw [hgBC]) <;> (funext x; (try dsimp only); rcases fa x with _ | _ <;> rcases fb x with _ | _ <;> rcases fc x with _ | _ <;> rfl)
    have E_left : Hid ((fun x => fa x && gBC x) = gL) := show _ = _ by
      (rw [hgL, hgBC]) <;> (funext x; (try dsimp only); rcases fa x with _ | _ <;> rcases fb x with _ | _ <;> rcases fc x with _ | _ <;> rfl)
    have E_right : Hid ((fun x => gAnd x || gAC x) = gL) := show _ = _ by
      (rw [hgL, hgAnd, hgAC, hgBC]) <;> (funext x; (try dsimp only); rcases fa x with _ | _ <;> rcases fb x with _ | _ <;> rcases fc x with _ | _ <;> rfl)
    have E_abs : Hid ((fun x => fa x || gAnd x) = fa) := show _ = _ by
      (rw [hgAnd]) <;> (funext x; (try dsimp only); rcases fa x with _ | _ <;> rcases fb x with _ | _ <;> rcases fc x with _ | _ <;> rfl)
    have E_na : Hid ((fun x => !fa x) = gNA) := show _ = _ by
      (rw [hgNA]) <;> (funext x; (try dsimp only); rcases fa x with _ | _ <;> rcases fb x with _ | _ <;> rcases fc x with _ | _ <;> rfl)
    have E_nb : Hid ((fun x => !fb x) = gNB) := show _ = _ by
      (rw [hgNB]) <;> (funext x; (try dsimp only); rcases fa x with _ | _ <;> rcases fb x with _ | _ <;> rcases fc x with _ | _ <;> rfl)
    have E_nor : Hid ((fun x => !gOr x) = gNor) := show _ = _ by
      (rw [hgNor, hgOr]) <;> (funext x; (try dsimp only); rcases fa x with _ | _ <;> rcases fb x with _ | _ <;> rcases fc x with _ | _ <;> rfl)
    have E_both : Hid ((fun x => gNA x && gNB x) = gNor) := show _ = _ by
      (rw [hgNor, hgOr, hgNA, hgNB]) <;> (funext x; (try dsimp only); rcases fa x with _ | _ <;> rcases fb x with _ | _ <;> rcases fc x with _ | _ <;> rfl)
    have E_again : Hid ((fun x => !gNA x) = fa) := show _ = _ by
      (rw [hgNA]) <;> (funext x; (try dsimp only); rcases fa x with _ | _ <;> rcases fb x with _ | _ <;> rcases fc x with _ | _ <;> rfl)
    have E_none : Hid ((fun x => fa x && gNA x) = fun _ => false) := show _ = _ by
      (rw [hgNA]) <;> (funext x; (try dsimp only); rcases fa x with _ | _ <;> rcases fb x with _ | _ <;> rcases fc x with _ | _ <;> rfl)
    have E_all : Hid ((fun x => fa x || gNA x) = fun _ => true) := show _ = _ by
      (rw [hgNA]) <;> (funext x; (try dsimp only); rcases fa x with _ | _ <;> rcases fb x with _ | _ <;> rcases fc x with _ | _ <;> rfl)
    have E_xor : Hid ((fun x => fa x != true) = gNA) := show _ = _ by
      (rw [hgNA]) <;> (funext x; (try dsimp only); rcases fa x with _ | _ <;> rcases fb x with _ | _ <;> rcases fc x with _ | _ <;> rfl)
    have LT : Hid (Low 6 (fun _ => true)) := Low.const 6 true
    clear hgAnd hgOr hgAC hgBC hgNA hgNB hgL hgNor
    clear hn01 hn02 hn12
    obtain ⟨pX_0, qX_0, nX_0⟩ := xb2 X_0
    obtain ⟨pX_1, qX_1, nX_1⟩ := xb2 X_1
    go_wp2_with fail
    clear pX_0 qX_0 nX_0 pX_1 qX_1 nX_1
    with_reducible refine (six_and D_0 D_1 HL0 HL1 HIN3 E_and).mono ?_
    rintro e w1_ ⟨⟨A1, m1, c1, r1, rfl, d1, _⟩, b1⟩
    replace HIN3 := rin HIN3 b1
    replace D_0 := rdn D_0 b1
    replace D_1 := rdn D_1 b1
    replace D_2 := rdn D_2 b1
    replace X_0 := rb2 X_0 b1
    replace X_1 := rb2 X_1 b1
    replace X_2 := rb2 X_2 b1
    have Bl1 := btr HB3 b1 HB3.out.size
    clear HB3
    clear b1
    have Dand := lid' d1
    clear d1
    obtain ⟨pX_1, qX_1, nX_1⟩ := xb2 X_1
    obtain ⟨pX_0, qX_0, nX_0⟩ := xb2 X_0
    go_wp2_with fail
    clear pX_1 qX_1 nX_1 pX_0 qX_0 nX_0
    have ab := ab2 w1_ (.cells #[.slice A1 m1 c1, .int .i64 (r1 : Int)] 24)
    replace HIN3 := rin HIN3 ab
    replace D_0 := rdn D_0 ab
    replace D_1 := rdn D_1 ab
    replace D_2 := rdn D_2 ab
    replace X_0 := rb2 X_0 ab
    replace X_1 := rb2 X_1 ab
    replace X_2 := rb2 X_2 ab
    replace Dand := rdn Dand ab
    have Xand := nb2 w1_ (.slice A1 m1 c1) (.int .i64 (r1 : Int)) 24
    have Bl2 := btr Bl1 ab Bl1.out.size
    clear Bl1
    clear ab
    generalize w1_.alloc (.cells #[.slice A1 m1 c1, .int .i64 (r1 : Int)] 24) = x2 at *
    generalize w1_.heap.size = g2 at *
    with_reducible refine (six_and D_1 D_0 HL1 HL0 HIN3 E_back).mono ?_
    rintro e w3_ ⟨⟨A3, m3, c3, r3, rfl, d3, _⟩, b3⟩
    replace HIN3 := rin HIN3 b3
    replace D_0 := rdn D_0 b3
    replace D_1 := rdn D_1 b3
    replace D_2 := rdn D_2 b3
    replace X_0 := rb2 X_0 b3
    replace X_1 := rb2 X_1 b3
    replace X_2 := rb2 X_2 b3
    replace Dand := rdn Dand b3
    replace Xand := rb2 Xand b3
    have Bl3 := btr Bl2 b3 Bl2.out.size
    clear Bl2
    clear b3
    have Dback := lid' d3
    clear d3
    obtain ⟨pX_0, qX_0, nX_0⟩ := xb2 X_0
    obtain ⟨pX_1, qX_1, nX_1⟩ := xb2 X_1
    go_wp2_with fail
    clear pX_0 qX_0 nX_0 pX_1 qX_1 nX_1
    have ab := ab2 w3_ (.cells #[.slice A3 m3 c3, .int .i64 (r3 : Int)] 24)
    replace HIN3 := rin HIN3 ab
    replace D_0 := rdn D_0 ab
    replace D_1 := rdn D_1 ab
    replace D_2 := rdn D_2 ab
    replace X_0 := rb2 X_0 ab
    replace X_1 := rb2 X_1 ab
    replace X_2 := rb2 X_2 ab
    replace Dand := rdn Dand ab
    replace Xand := rb2 Xand ab
    replace Dback := rdn Dback ab
    have Xback := nb2 w3_ (.slice A3 m3 c3) (.int .i64 (r3 : Int)) 24
    have Bl4 := btr Bl3 ab Bl3.out.size
    clear Bl3
    clear ab
    generalize w3_.alloc (.cells #[.slice A3 m3 c3, .int .i64 (r3 : Int)] 24) = x4 at *
    generalize w3_.heap.size = g4 at *
    with_reducible refine (six_or D_0 D_1 HL0 HL1 HIN3 E_or).mono ?_
    rintro e w5_ ⟨⟨A5, m5, c5, r5, rfl, d5, _⟩, b5⟩
    replace HIN3 := rin HIN3 b5
    replace D_0 := rdn D_0 b5
    replace D_1 := rdn D_1 b5
    replace D_2 := rdn D_2 b5
    replace X_0 := rb2 X_0 b5
    replace X_1 := rb2 X_1 b5
    replace X_2 := rb2 X_2 b5
    replace Dand := rdn Dand b5
    replace Xand := rb2 Xand b5
    replace Dback := rdn Dback b5
    replace Xback := rb2 Xback b5
    have Bl5 := btr Bl4 b5 Bl4.out.size
    clear Bl4
    clear b5
    have Dor := lid' d5
    clear d5
    obtain ⟨pX_0, qX_0, nX_0⟩ := xb2 X_0
    obtain ⟨pX_2, qX_2, nX_2⟩ := xb2 X_2
    go_wp2_with fail
    clear pX_0 qX_0 nX_0 pX_2 qX_2 nX_2
    have ab := ab2 w5_ (.cells #[.slice A5 m5 c5, .int .i64 (r5 : Int)] 24)
    replace HIN3 := rin HIN3 ab
    replace D_0 := rdn D_0 ab
    replace D_1 := rdn D_1 ab
    replace D_2 := rdn D_2 ab
    replace X_0 := rb2 X_0 ab
    replace X_1 := rb2 X_1 ab
    replace X_2 := rb2 X_2 ab
    replace Dand := rdn Dand ab
    replace Xand := rb2 Xand ab
    replace Dback := rdn Dback ab
    replace Xback := rb2 Xback ab
    replace Dor := rdn Dor ab
    have Xor := nb2 w5_ (.slice A5 m5 c5) (.int .i64 (r5 : Int)) 24
    have Bl6 := btr Bl5 ab Bl5.out.size
    clear Bl5
    clear ab
    generalize w5_.alloc (.cells #[.slice A5 m5 c5, .int .i64 (r5 : Int)] 24) = x6 at *
    generalize w5_.heap.size = g6 at *
    with_reducible refine (six_and D_0 D_2 HL0 HL2 HIN3 E_ac).mono ?_
    rintro e w7_ ⟨⟨A7, m7, c7, r7, rfl, d7, _⟩, b7⟩
    replace HIN3 := rin HIN3 b7
    replace D_0 := rdn D_0 b7
    replace D_1 := rdn D_1 b7
    replace D_2 := rdn D_2 b7
    replace X_0 := rb2 X_0 b7
    replace X_1 := rb2 X_1 b7
    replace X_2 := rb2 X_2 b7
    replace Dand := rdn Dand b7
    replace Xand := rb2 Xand b7
    replace Dback := rdn Dback b7
    replace Xback := rb2 Xback b7
    replace Dor := rdn Dor b7
    replace Xor := rb2 Xor b7
    have Bl7 := btr Bl6 b7 Bl6.out.size
    clear Bl6
    clear b7
    have Dac := lid' d7
    clear d7
    obtain ⟨pX_1, qX_1, nX_1⟩ := xb2 X_1
    obtain ⟨pX_2, qX_2, nX_2⟩ := xb2 X_2
    go_wp2_with fail
    clear pX_1 qX_1 nX_1 pX_2 qX_2 nX_2
    have ab := ab2 w7_ (.cells #[.slice A7 m7 c7, .int .i64 (r7 : Int)] 24)
    replace HIN3 := rin HIN3 ab
    replace D_0 := rdn D_0 ab
    replace D_1 := rdn D_1 ab
    replace D_2 := rdn D_2 ab
    replace X_0 := rb2 X_0 ab
    replace X_1 := rb2 X_1 ab
    replace X_2 := rb2 X_2 ab
    replace Dand := rdn Dand ab
    replace Xand := rb2 Xand ab
    replace Dback := rdn Dback ab
    replace Xback := rb2 Xback ab
    replace Dor := rdn Dor ab
    replace Xor := rb2 Xor ab
    replace Dac := rdn Dac ab
    have Xac := nb2 w7_ (.slice A7 m7 c7) (.int .i64 (r7 : Int)) 24
    have Bl8 := btr Bl7 ab Bl7.out.size
    clear Bl7
    clear ab
    generalize w7_.alloc (.cells #[.slice A7 m7 c7, .int .i64 (r7 : Int)] 24) = x8 at *
    generalize w7_.heap.size = g8 at *
    with_reducible refine (six_or D_1 D_2 HL1 HL2 HIN3 E_bc).mono ?_
    rintro e w9_ ⟨⟨A9, m9, c9, r9, rfl, d9, _⟩, b9⟩
    replace HIN3 := rin HIN3 b9
    replace D_0 := rdn D_0 b9
    replace D_1 := rdn D_1 b9
    replace D_2 := rdn D_2 b9
    replace X_0 := rb2 X_0 b9
    replace X_1 := rb2 X_1 b9
    replace X_2 := rb2 X_2 b9
    replace Dand := rdn Dand b9
    replace Xand := rb2 Xand b9
    replace Dback := rdn Dback b9
    replace Xback := rb2 Xback b9
    replace Dor := rdn Dor b9
    replace Xor := rb2 Xor b9
    replace Dac := rdn Dac b9
    replace Xac := rb2 Xac b9
    have Bl9 := btr Bl8 b9 Bl8.out.size
    clear Bl8
    clear b9
    have Dbc := lid' d9
    clear d9
    obtain ⟨pX_0, qX_0, nX_0⟩ := xb2 X_0
    go_wp2_with fail
    clear pX_0 qX_0 nX_0
    have ab := ab2 w9_ (.cells #[.slice A9 m9 c9, .int .i64 (r9 : Int)] 24)
    replace HIN3 := rin HIN3 ab
    replace D_0 := rdn D_0 ab
    replace D_1 := rdn D_1 ab
    replace D_2 := rdn D_2 ab
    replace X_0 := rb2 X_0 ab
    replace X_1 := rb2 X_1 ab
    replace X_2 := rb2 X_2 ab
    replace Dand := rdn Dand ab
    replace Xand := rb2 Xand ab
    replace Dback := rdn Dback ab
    replace Xback := rb2 Xback ab
    replace Dor := rdn Dor ab
    replace Xor := rb2 Xor ab
    replace Dac := rdn Dac ab
    replace Xac := rb2 Xac ab
    replace Dbc := rdn Dbc ab
    have Xbc := nb2 w9_ (.slice A9 m9 c9) (.int .i64 (r9 : Int)) 24
    have Bl10 := btr Bl9 ab Bl9.out.size
    clear Bl9
    clear ab
    generalize w9_.alloc (.cells #[.slice A9 m9 c9, .int .i64 (r9 : Int)] 24) = x10 at *
    generalize w9_.heap.size = g10 at *
    with_reducible refine (six_and D_0 Dbc HL0 LgBC HIN3 E_left).mono ?_
    rintro e w11_ ⟨⟨A11, m11, c11, r11, rfl, d11, _⟩, b11⟩
    replace HIN3 := rin HIN3 b11
    replace D_0 := rdn D_0 b11
    replace D_1 := rdn D_1 b11
    replace D_2 := rdn D_2 b11
    replace X_0 := rb2 X_0 b11
    replace X_1 := rb2 X_1 b11
    replace X_2 := rb2 X_2 b11
    replace Dand := rdn Dand b11
    replace Xand := rb2 Xand b11
    replace Dback := rdn Dback b11
    replace Xback := rb2 Xback b11
    replace Dor := rdn Dor b11
    replace Xor := rb2 Xor b11
    replace Dac := rdn Dac b11
    replace Xac := rb2 Xac b11
    replace Dbc := rdn Dbc b11
    replace Xbc := rb2 Xbc b11
    have Bl11 := btr Bl10 b11 Bl10.out.size
    clear Bl10
    clear b11
    have Dleft := lid' d11
    clear d11
    obtain ⟨pXand, qXand, nXand⟩ := xb2 Xand
    obtain ⟨pXac, qXac, nXac⟩ := xb2 Xac
    go_wp2_with fail
    clear pXand qXand nXand pXac qXac nXac
    have ab := ab2 w11_ (.cells #[.slice A11 m11 c11, .int .i64 (r11 : Int)] 24)
    replace HIN3 := rin HIN3 ab
    replace D_0 := rdn D_0 ab
    replace D_1 := rdn D_1 ab
    replace D_2 := rdn D_2 ab
    replace X_0 := rb2 X_0 ab
    replace X_1 := rb2 X_1 ab
    replace X_2 := rb2 X_2 ab
    replace Dand := rdn Dand ab
    replace Xand := rb2 Xand ab
    replace Dback := rdn Dback ab
    replace Xback := rb2 Xback ab
    replace Dor := rdn Dor ab
    replace Xor := rb2 Xor ab
    replace Dac := rdn Dac ab
    replace Xac := rb2 Xac ab
    replace Dbc := rdn Dbc ab
    replace Xbc := rb2 Xbc ab
    replace Dleft := rdn Dleft ab
    have Xleft := nb2 w11_ (.slice A11 m11 c11) (.int .i64 (r11 : Int)) 24
    have Bl12 := btr Bl11 ab Bl11.out.size
    clear Bl11
    clear ab
    generalize w11_.alloc (.cells #[.slice A11 m11 c11, .int .i64 (r11 : Int)] 24) = x12 at *
    generalize w11_.heap.size = g12 at *
    with_reducible refine (six_or Dand Dac LgAnd LgAC HIN3 E_right).mono ?_
    rintro e w13_ ⟨⟨A13, m13, c13, r13, rfl, d13, _⟩, b13⟩
    replace HIN3 := rin HIN3 b13
    replace D_0 := rdn D_0 b13
    replace D_1 := rdn D_1 b13
    replace D_2 := rdn D_2 b13
    replace X_0 := rb2 X_0 b13
    replace X_1 := rb2 X_1 b13
    replace X_2 := rb2 X_2 b13
    replace Dand := rdn Dand b13
    replace Xand := rb2 Xand b13
    replace Dback := rdn Dback b13
    replace Xback := rb2 Xback b13
    replace Dor := rdn Dor b13
    replace Xor := rb2 Xor b13
    replace Dac := rdn Dac b13
    replace Xac := rb2 Xac b13
    replace Dbc := rdn Dbc b13
    replace Xbc := rb2 Xbc b13
    replace Dleft := rdn Dleft b13
    replace Xleft := rb2 Xleft b13
    have Bl13 := btr Bl12 b13 Bl12.out.size
    clear Bl12
    clear b13
    have Dright := lid' d13
    clear d13
    obtain ⟨pX_0, qX_0, nX_0⟩ := xb2 X_0
    obtain ⟨pXand, qXand, nXand⟩ := xb2 Xand
    go_wp2_with fail
    clear pX_0 qX_0 nX_0 pXand qXand nXand
    have ab := ab2 w13_ (.cells #[.slice A13 m13 c13, .int .i64 (r13 : Int)] 24)
    replace HIN3 := rin HIN3 ab
    replace D_0 := rdn D_0 ab
    replace D_1 := rdn D_1 ab
    replace D_2 := rdn D_2 ab
    replace X_0 := rb2 X_0 ab
    replace X_1 := rb2 X_1 ab
    replace X_2 := rb2 X_2 ab
    replace Dand := rdn Dand ab
    replace Xand := rb2 Xand ab
    replace Dback := rdn Dback ab
    replace Xback := rb2 Xback ab
    replace Dor := rdn Dor ab
    replace Xor := rb2 Xor ab
    replace Dac := rdn Dac ab
    replace Xac := rb2 Xac ab
    replace Dbc := rdn Dbc ab
    replace Xbc := rb2 Xbc ab
    replace Dleft := rdn Dleft ab
    replace Xleft := rb2 Xleft ab
    replace Dright := rdn Dright ab
    have Xright := nb2 w13_ (.slice A13 m13 c13) (.int .i64 (r13 : Int)) 24
    have Bl14 := btr Bl13 ab Bl13.out.size
    clear Bl13
    clear ab
    generalize w13_.alloc (.cells #[.slice A13 m13 c13, .int .i64 (r13 : Int)] 24) = x14 at *
    generalize w13_.heap.size = g14 at *
    with_reducible refine (six_or D_0 Dand HL0 LgAnd HIN3 E_abs).mono ?_
    rintro e w15_ ⟨⟨A15, m15, c15, r15, rfl, d15, _⟩, b15⟩
    replace HIN3 := rin HIN3 b15
    replace D_0 := rdn D_0 b15
    replace D_1 := rdn D_1 b15
    replace D_2 := rdn D_2 b15
    replace X_0 := rb2 X_0 b15
    replace X_1 := rb2 X_1 b15
    replace X_2 := rb2 X_2 b15
    replace Dand := rdn Dand b15
    replace Xand := rb2 Xand b15
    replace Dback := rdn Dback b15
    replace Xback := rb2 Xback b15
    replace Dor := rdn Dor b15
    replace Xor := rb2 Xor b15
    replace Dac := rdn Dac b15
    replace Xac := rb2 Xac b15
    replace Dbc := rdn Dbc b15
    replace Xbc := rb2 Xbc b15
    replace Dleft := rdn Dleft b15
    replace Xleft := rb2 Xleft b15
    replace Dright := rdn Dright b15
    replace Xright := rb2 Xright b15
    have Bl15 := btr Bl14 b15 Bl14.out.size
    clear Bl14
    clear b15
    have Dabs := lid' d15
    clear d15
    obtain ⟨pX_0, qX_0, nX_0⟩ := xb2 X_0
    go_wp2_with fail
    clear pX_0 qX_0 nX_0
    have ab := ab2 w15_ (.cells #[.slice A15 m15 c15, .int .i64 (r15 : Int)] 24)
    replace HIN3 := rin HIN3 ab
    replace D_0 := rdn D_0 ab
    replace D_1 := rdn D_1 ab
    replace D_2 := rdn D_2 ab
    replace X_0 := rb2 X_0 ab
    replace X_1 := rb2 X_1 ab
    replace X_2 := rb2 X_2 ab
    replace Dand := rdn Dand ab
    replace Xand := rb2 Xand ab
    replace Dback := rdn Dback ab
    replace Xback := rb2 Xback ab
    replace Dor := rdn Dor ab
    replace Xor := rb2 Xor ab
    replace Dac := rdn Dac ab
    replace Xac := rb2 Xac ab
    replace Dbc := rdn Dbc ab
    replace Xbc := rb2 Xbc ab
    replace Dleft := rdn Dleft ab
    replace Xleft := rb2 Xleft ab
    replace Dright := rdn Dright ab
    replace Xright := rb2 Xright ab
    replace Dabs := rdn Dabs ab
    have Xabs := nb2 w15_ (.slice A15 m15 c15) (.int .i64 (r15 : Int)) 24
    have Bl16 := btr Bl15 ab Bl15.out.size
    clear Bl15
    clear ab
    generalize w15_.alloc (.cells #[.slice A15 m15 c15, .int .i64 (r15 : Int)] 24) = x16 at *
    generalize w15_.heap.size = g16 at *
    with_reducible refine (six_not D_0 E_na).mono ?_
    rintro e w17_ ⟨⟨A17, m17, c17, r17, rfl, d17, _⟩, b17⟩
    replace HIN3 := rin HIN3 b17
    replace D_0 := rdn D_0 b17
    replace D_1 := rdn D_1 b17
    replace D_2 := rdn D_2 b17
    replace X_0 := rb2 X_0 b17
    replace X_1 := rb2 X_1 b17
    replace X_2 := rb2 X_2 b17
    replace Dand := rdn Dand b17
    replace Xand := rb2 Xand b17
    replace Dback := rdn Dback b17
    replace Xback := rb2 Xback b17
    replace Dor := rdn Dor b17
    replace Xor := rb2 Xor b17
    replace Dac := rdn Dac b17
    replace Xac := rb2 Xac b17
    replace Dbc := rdn Dbc b17
    replace Xbc := rb2 Xbc b17
    replace Dleft := rdn Dleft b17
    replace Xleft := rb2 Xleft b17
    replace Dright := rdn Dright b17
    replace Xright := rb2 Xright b17
    replace Dabs := rdn Dabs b17
    replace Xabs := rb2 Xabs b17
    have Bl17 := btr Bl16 b17 Bl16.out.size
    clear Bl16
    clear b17
    have Dna := lid' d17
    clear d17
    obtain ⟨pX_1, qX_1, nX_1⟩ := xb2 X_1
    go_wp2_with fail
    clear pX_1 qX_1 nX_1
    have ab := ab2 w17_ (.cells #[.slice A17 m17 c17, .int .i64 (r17 : Int)] 24)
    replace HIN3 := rin HIN3 ab
    replace D_0 := rdn D_0 ab
    replace D_1 := rdn D_1 ab
    replace D_2 := rdn D_2 ab
    replace X_0 := rb2 X_0 ab
    replace X_1 := rb2 X_1 ab
    replace X_2 := rb2 X_2 ab
    replace Dand := rdn Dand ab
    replace Xand := rb2 Xand ab
    replace Dback := rdn Dback ab
    replace Xback := rb2 Xback ab
    replace Dor := rdn Dor ab
    replace Xor := rb2 Xor ab
    replace Dac := rdn Dac ab
    replace Xac := rb2 Xac ab
    replace Dbc := rdn Dbc ab
    replace Xbc := rb2 Xbc ab
    replace Dleft := rdn Dleft ab
    replace Xleft := rb2 Xleft ab
    replace Dright := rdn Dright ab
    replace Xright := rb2 Xright ab
    replace Dabs := rdn Dabs ab
    replace Xabs := rb2 Xabs ab
    replace Dna := rdn Dna ab
    have Xna := nb2 w17_ (.slice A17 m17 c17) (.int .i64 (r17 : Int)) 24
    have Bl18 := btr Bl17 ab Bl17.out.size
    clear Bl17
    clear ab
    generalize w17_.alloc (.cells #[.slice A17 m17 c17, .int .i64 (r17 : Int)] 24) = x18 at *
    generalize w17_.heap.size = g18 at *
    with_reducible refine (six_not D_1 E_nb).mono ?_
    rintro e w19_ ⟨⟨A19, m19, c19, r19, rfl, d19, _⟩, b19⟩
    replace HIN3 := rin HIN3 b19
    replace D_0 := rdn D_0 b19
    replace D_1 := rdn D_1 b19
    replace D_2 := rdn D_2 b19
    replace X_0 := rb2 X_0 b19
    replace X_1 := rb2 X_1 b19
    replace X_2 := rb2 X_2 b19
    replace Dand := rdn Dand b19
    replace Xand := rb2 Xand b19
    replace Dback := rdn Dback b19
    replace Xback := rb2 Xback b19
    replace Dor := rdn Dor b19
    replace Xor := rb2 Xor b19
    replace Dac := rdn Dac b19
    replace Xac := rb2 Xac b19
    replace Dbc := rdn Dbc b19
    replace Xbc := rb2 Xbc b19
    replace Dleft := rdn Dleft b19
    replace Xleft := rb2 Xleft b19
    replace Dright := rdn Dright b19
    replace Xright := rb2 Xright b19
    replace Dabs := rdn Dabs b19
    replace Xabs := rb2 Xabs b19
    replace Dna := rdn Dna b19
    replace Xna := rb2 Xna b19
    have Bl19 := btr Bl18 b19 Bl18.out.size
    clear Bl18
    clear b19
    have Dnb := lid' d19
    clear d19
    obtain ⟨pXor, qXor, nXor⟩ := xb2 Xor
    go_wp2_with fail
    clear pXor qXor nXor
    have ab := ab2 w19_ (.cells #[.slice A19 m19 c19, .int .i64 (r19 : Int)] 24)
    replace HIN3 := rin HIN3 ab
    replace D_0 := rdn D_0 ab
    replace D_1 := rdn D_1 ab
    replace D_2 := rdn D_2 ab
    replace X_0 := rb2 X_0 ab
    replace X_1 := rb2 X_1 ab
    replace X_2 := rb2 X_2 ab
    replace Dand := rdn Dand ab
    replace Xand := rb2 Xand ab
    replace Dback := rdn Dback ab
    replace Xback := rb2 Xback ab
    replace Dor := rdn Dor ab
    replace Xor := rb2 Xor ab
    replace Dac := rdn Dac ab
    replace Xac := rb2 Xac ab
    replace Dbc := rdn Dbc ab
    replace Xbc := rb2 Xbc ab
    replace Dleft := rdn Dleft ab
    replace Xleft := rb2 Xleft ab
    replace Dright := rdn Dright ab
    replace Xright := rb2 Xright ab
    replace Dabs := rdn Dabs ab
    replace Xabs := rb2 Xabs ab
    replace Dna := rdn Dna ab
    replace Xna := rb2 Xna ab
    replace Dnb := rdn Dnb ab
    have Xnb := nb2 w19_ (.slice A19 m19 c19) (.int .i64 (r19 : Int)) 24
    have Bl20 := btr Bl19 ab Bl19.out.size
    clear Bl19
    clear ab
    generalize w19_.alloc (.cells #[.slice A19 m19 c19, .int .i64 (r19 : Int)] 24) = x20 at *
    generalize w19_.heap.size = g20 at *
    with_reducible refine (six_not Dor E_nor).mono ?_
    rintro e w21_ ⟨⟨A21, m21, c21, r21, rfl, d21, _⟩, b21⟩
    replace HIN3 := rin HIN3 b21
    replace D_0 := rdn D_0 b21
    replace D_1 := rdn D_1 b21
    replace D_2 := rdn D_2 b21
    replace X_0 := rb2 X_0 b21
    replace X_1 := rb2 X_1 b21
    replace X_2 := rb2 X_2 b21
    replace Dand := rdn Dand b21
    replace Xand := rb2 Xand b21
    replace Dback := rdn Dback b21
    replace Xback := rb2 Xback b21
    replace Dor := rdn Dor b21
    replace Xor := rb2 Xor b21
    replace Dac := rdn Dac b21
    replace Xac := rb2 Xac b21
    replace Dbc := rdn Dbc b21
    replace Xbc := rb2 Xbc b21
    replace Dleft := rdn Dleft b21
    replace Xleft := rb2 Xleft b21
    replace Dright := rdn Dright b21
    replace Xright := rb2 Xright b21
    replace Dabs := rdn Dabs b21
    replace Xabs := rb2 Xabs b21
    replace Dna := rdn Dna b21
    replace Xna := rb2 Xna b21
    replace Dnb := rdn Dnb b21
    replace Xnb := rb2 Xnb b21
    have Bl21 := btr Bl20 b21 Bl20.out.size
    clear Bl20
    clear b21
    have Dnor := lid' d21
    clear d21
    obtain ⟨pXna, qXna, nXna⟩ := xb2 Xna
    obtain ⟨pXnb, qXnb, nXnb⟩ := xb2 Xnb
    go_wp2_with fail
    clear pXna qXna nXna pXnb qXnb nXnb
    have ab := ab2 w21_ (.cells #[.slice A21 m21 c21, .int .i64 (r21 : Int)] 24)
    replace HIN3 := rin HIN3 ab
    replace D_0 := rdn D_0 ab
    replace D_1 := rdn D_1 ab
    replace D_2 := rdn D_2 ab
    replace X_0 := rb2 X_0 ab
    replace X_1 := rb2 X_1 ab
    replace X_2 := rb2 X_2 ab
    replace Dand := rdn Dand ab
    replace Xand := rb2 Xand ab
    replace Dback := rdn Dback ab
    replace Xback := rb2 Xback ab
    replace Dor := rdn Dor ab
    replace Xor := rb2 Xor ab
    replace Dac := rdn Dac ab
    replace Xac := rb2 Xac ab
    replace Dbc := rdn Dbc ab
    replace Xbc := rb2 Xbc ab
    replace Dleft := rdn Dleft ab
    replace Xleft := rb2 Xleft ab
    replace Dright := rdn Dright ab
    replace Xright := rb2 Xright ab
    replace Dabs := rdn Dabs ab
    replace Xabs := rb2 Xabs ab
    replace Dna := rdn Dna ab
    replace Xna := rb2 Xna ab
    replace Dnb := rdn Dnb ab
    replace Xnb := rb2 Xnb ab
    replace Dnor := rdn Dnor ab
    have Xnor := nb2 w21_ (.slice A21 m21 c21) (.int .i64 (r21 : Int)) 24
    have Bl22 := btr Bl21 ab Bl21.out.size
    clear Bl21
    clear ab
    generalize w21_.alloc (.cells #[.slice A21 m21 c21, .int .i64 (r21 : Int)] 24) = x22 at *
    generalize w21_.heap.size = g22 at *
    with_reducible refine (six_and Dna Dnb LgNA LgNB HIN3 E_both).mono ?_
    rintro e w23_ ⟨⟨A23, m23, c23, r23, rfl, d23, _⟩, b23⟩
    replace HIN3 := rin HIN3 b23
    replace D_0 := rdn D_0 b23
    replace D_1 := rdn D_1 b23
    replace D_2 := rdn D_2 b23
    replace X_0 := rb2 X_0 b23
    replace X_1 := rb2 X_1 b23
    replace X_2 := rb2 X_2 b23
    replace Dand := rdn Dand b23
    replace Xand := rb2 Xand b23
    replace Dback := rdn Dback b23
    replace Xback := rb2 Xback b23
    replace Dor := rdn Dor b23
    replace Xor := rb2 Xor b23
    replace Dac := rdn Dac b23
    replace Xac := rb2 Xac b23
    replace Dbc := rdn Dbc b23
    replace Xbc := rb2 Xbc b23
    replace Dleft := rdn Dleft b23
    replace Xleft := rb2 Xleft b23
    replace Dright := rdn Dright b23
    replace Xright := rb2 Xright b23
    replace Dabs := rdn Dabs b23
    replace Xabs := rb2 Xabs b23
    replace Dna := rdn Dna b23
    replace Xna := rb2 Xna b23
    replace Dnb := rdn Dnb b23
    replace Xnb := rb2 Xnb b23
    replace Dnor := rdn Dnor b23
    replace Xnor := rb2 Xnor b23
    have Bl23 := btr Bl22 b23 Bl22.out.size
    clear Bl22
    clear b23
    have Dboth := lid' d23
    clear d23
    obtain ⟨pXna, qXna, nXna⟩ := xb2 Xna
    go_wp2_with fail
    clear pXna qXna nXna
    have ab := ab2 w23_ (.cells #[.slice A23 m23 c23, .int .i64 (r23 : Int)] 24)
    replace HIN3 := rin HIN3 ab
    replace D_0 := rdn D_0 ab
    replace D_1 := rdn D_1 ab
    replace D_2 := rdn D_2 ab
    replace X_0 := rb2 X_0 ab
    replace X_1 := rb2 X_1 ab
    replace X_2 := rb2 X_2 ab
    replace Dand := rdn Dand ab
    replace Xand := rb2 Xand ab
    replace Dback := rdn Dback ab
    replace Xback := rb2 Xback ab
    replace Dor := rdn Dor ab
    replace Xor := rb2 Xor ab
    replace Dac := rdn Dac ab
    replace Xac := rb2 Xac ab
    replace Dbc := rdn Dbc ab
    replace Xbc := rb2 Xbc ab
    replace Dleft := rdn Dleft ab
    replace Xleft := rb2 Xleft ab
    replace Dright := rdn Dright ab
    replace Xright := rb2 Xright ab
    replace Dabs := rdn Dabs ab
    replace Xabs := rb2 Xabs ab
    replace Dna := rdn Dna ab
    replace Xna := rb2 Xna ab
    replace Dnb := rdn Dnb ab
    replace Xnb := rb2 Xnb ab
    replace Dnor := rdn Dnor ab
    replace Xnor := rb2 Xnor ab
    replace Dboth := rdn Dboth ab
    have Xboth := nb2 w23_ (.slice A23 m23 c23) (.int .i64 (r23 : Int)) 24
    have Bl24 := btr Bl23 ab Bl23.out.size
    clear Bl23
    clear ab
    generalize w23_.alloc (.cells #[.slice A23 m23 c23, .int .i64 (r23 : Int)] 24) = x24 at *
    generalize w23_.heap.size = g24 at *
    with_reducible refine (six_not Dna E_again).mono ?_
    rintro e w25_ ⟨⟨A25, m25, c25, r25, rfl, d25, _⟩, b25⟩
    replace HIN3 := rin HIN3 b25
    replace D_0 := rdn D_0 b25
    replace D_1 := rdn D_1 b25
    replace D_2 := rdn D_2 b25
    replace X_0 := rb2 X_0 b25
    replace X_1 := rb2 X_1 b25
    replace X_2 := rb2 X_2 b25
    replace Dand := rdn Dand b25
    replace Xand := rb2 Xand b25
    replace Dback := rdn Dback b25
    replace Xback := rb2 Xback b25
    replace Dor := rdn Dor b25
    replace Xor := rb2 Xor b25
    replace Dac := rdn Dac b25
    replace Xac := rb2 Xac b25
    replace Dbc := rdn Dbc b25
    replace Xbc := rb2 Xbc b25
    replace Dleft := rdn Dleft b25
    replace Xleft := rb2 Xleft b25
    replace Dright := rdn Dright b25
    replace Xright := rb2 Xright b25
    replace Dabs := rdn Dabs b25
    replace Xabs := rb2 Xabs b25
    replace Dna := rdn Dna b25
    replace Xna := rb2 Xna b25
    replace Dnb := rdn Dnb b25
    replace Xnb := rb2 Xnb b25
    replace Dnor := rdn Dnor b25
    replace Xnor := rb2 Xnor b25
    replace Dboth := rdn Dboth b25
    replace Xboth := rb2 Xboth b25
    have Bl25 := btr Bl24 b25 Bl24.out.size
    clear Bl24
    clear b25
    have Dagain := lid' d25
    clear d25
    obtain ⟨pX_0, qX_0, nX_0⟩ := xb2 X_0
    obtain ⟨pXna, qXna, nXna⟩ := xb2 Xna
    go_wp2_with fail
    clear pX_0 qX_0 nX_0 pXna qXna nXna
    have ab := ab2 w25_ (.cells #[.slice A25 m25 c25, .int .i64 (r25 : Int)] 24)
    replace HIN3 := rin HIN3 ab
    replace D_0 := rdn D_0 ab
    replace D_1 := rdn D_1 ab
    replace D_2 := rdn D_2 ab
    replace X_0 := rb2 X_0 ab
    replace X_1 := rb2 X_1 ab
    replace X_2 := rb2 X_2 ab
    replace Dand := rdn Dand ab
    replace Xand := rb2 Xand ab
    replace Dback := rdn Dback ab
    replace Xback := rb2 Xback ab
    replace Dor := rdn Dor ab
    replace Xor := rb2 Xor ab
    replace Dac := rdn Dac ab
    replace Xac := rb2 Xac ab
    replace Dbc := rdn Dbc ab
    replace Xbc := rb2 Xbc ab
    replace Dleft := rdn Dleft ab
    replace Xleft := rb2 Xleft ab
    replace Dright := rdn Dright ab
    replace Xright := rb2 Xright ab
    replace Dabs := rdn Dabs ab
    replace Xabs := rb2 Xabs ab
    replace Dna := rdn Dna ab
    replace Xna := rb2 Xna ab
    replace Dnb := rdn Dnb ab
    replace Xnb := rb2 Xnb ab
    replace Dnor := rdn Dnor ab
    replace Xnor := rb2 Xnor ab
    replace Dboth := rdn Dboth ab
    replace Xboth := rb2 Xboth ab
    replace Dagain := rdn Dagain ab
    have Xagain := nb2 w25_ (.slice A25 m25 c25) (.int .i64 (r25 : Int)) 24
    have Bl26 := btr Bl25 ab Bl25.out.size
    clear Bl25
    clear ab
    generalize w25_.alloc (.cells #[.slice A25 m25 c25, .int .i64 (r25 : Int)] 24) = x26 at *
    generalize w25_.heap.size = g26 at *
    with_reducible refine (six_and D_0 Dna HL0 LgNA HIN3 E_none).mono ?_
    rintro e w27_ ⟨⟨A27, m27, c27, r27, rfl, d27, _⟩, b27⟩
    replace HIN3 := rin HIN3 b27
    replace D_0 := rdn D_0 b27
    replace D_1 := rdn D_1 b27
    replace D_2 := rdn D_2 b27
    replace X_0 := rb2 X_0 b27
    replace X_1 := rb2 X_1 b27
    replace X_2 := rb2 X_2 b27
    replace Dand := rdn Dand b27
    replace Xand := rb2 Xand b27
    replace Dback := rdn Dback b27
    replace Xback := rb2 Xback b27
    replace Dor := rdn Dor b27
    replace Xor := rb2 Xor b27
    replace Dac := rdn Dac b27
    replace Xac := rb2 Xac b27
    replace Dbc := rdn Dbc b27
    replace Xbc := rb2 Xbc b27
    replace Dleft := rdn Dleft b27
    replace Xleft := rb2 Xleft b27
    replace Dright := rdn Dright b27
    replace Xright := rb2 Xright b27
    replace Dabs := rdn Dabs b27
    replace Xabs := rb2 Xabs b27
    replace Dna := rdn Dna b27
    replace Xna := rb2 Xna b27
    replace Dnb := rdn Dnb b27
    replace Xnb := rb2 Xnb b27
    replace Dnor := rdn Dnor b27
    replace Xnor := rb2 Xnor b27
    replace Dboth := rdn Dboth b27
    replace Xboth := rb2 Xboth b27
    replace Dagain := rdn Dagain b27
    replace Xagain := rb2 Xagain b27
    have Bl27 := btr Bl26 b27 Bl26.out.size
    clear Bl26
    clear b27
    have Dnone := lid' d27
    clear d27
    obtain ⟨pX_0, qX_0, nX_0⟩ := xb2 X_0
    obtain ⟨pXna, qXna, nXna⟩ := xb2 Xna
    go_wp2_with fail
    clear pX_0 qX_0 nX_0 pXna qXna nXna
    have ab := ab2 w27_ (.cells #[.slice A27 m27 c27, .int .i64 (r27 : Int)] 24)
    replace HIN3 := rin HIN3 ab
    replace D_0 := rdn D_0 ab
    replace D_1 := rdn D_1 ab
    replace D_2 := rdn D_2 ab
    replace X_0 := rb2 X_0 ab
    replace X_1 := rb2 X_1 ab
    replace X_2 := rb2 X_2 ab
    replace Dand := rdn Dand ab
    replace Xand := rb2 Xand ab
    replace Dback := rdn Dback ab
    replace Xback := rb2 Xback ab
    replace Dor := rdn Dor ab
    replace Xor := rb2 Xor ab
    replace Dac := rdn Dac ab
    replace Xac := rb2 Xac ab
    replace Dbc := rdn Dbc ab
    replace Xbc := rb2 Xbc ab
    replace Dleft := rdn Dleft ab
    replace Xleft := rb2 Xleft ab
    replace Dright := rdn Dright ab
    replace Xright := rb2 Xright ab
    replace Dabs := rdn Dabs ab
    replace Xabs := rb2 Xabs ab
    replace Dna := rdn Dna ab
    replace Xna := rb2 Xna ab
    replace Dnb := rdn Dnb ab
    replace Xnb := rb2 Xnb ab
    replace Dnor := rdn Dnor ab
    replace Xnor := rb2 Xnor ab
    replace Dboth := rdn Dboth ab
    replace Xboth := rb2 Xboth ab
    replace Dagain := rdn Dagain ab
    replace Xagain := rb2 Xagain ab
    replace Dnone := rdn Dnone ab
    have Xnone := nb2 w27_ (.slice A27 m27 c27) (.int .i64 (r27 : Int)) 24
    have Bl28 := btr Bl27 ab Bl27.out.size
    clear Bl27
    clear ab
    generalize w27_.alloc (.cells #[.slice A27 m27 c27, .int .i64 (r27 : Int)] 24) = x28 at *
    generalize w27_.heap.size = g28 at *
    with_reducible refine (six_or D_0 Dna HL0 LgNA HIN3 E_all).mono ?_
    rintro e w29_ ⟨⟨A29, m29, c29, r29, rfl, d29, _⟩, b29⟩
    replace HIN3 := rin HIN3 b29
    replace D_0 := rdn D_0 b29
    replace D_1 := rdn D_1 b29
    replace D_2 := rdn D_2 b29
    replace X_0 := rb2 X_0 b29
    replace X_1 := rb2 X_1 b29
    replace X_2 := rb2 X_2 b29
    replace Dand := rdn Dand b29
    replace Xand := rb2 Xand b29
    replace Dback := rdn Dback b29
    replace Xback := rb2 Xback b29
    replace Dor := rdn Dor b29
    replace Xor := rb2 Xor b29
    replace Dac := rdn Dac b29
    replace Xac := rb2 Xac b29
    replace Dbc := rdn Dbc b29
    replace Xbc := rb2 Xbc b29
    replace Dleft := rdn Dleft b29
    replace Xleft := rb2 Xleft b29
    replace Dright := rdn Dright b29
    replace Xright := rb2 Xright b29
    replace Dabs := rdn Dabs b29
    replace Xabs := rb2 Xabs b29
    replace Dna := rdn Dna b29
    replace Xna := rb2 Xna b29
    replace Dnb := rdn Dnb b29
    replace Xnb := rb2 Xnb b29
    replace Dnor := rdn Dnor b29
    replace Xnor := rb2 Xnor b29
    replace Dboth := rdn Dboth b29
    replace Xboth := rb2 Xboth b29
    replace Dagain := rdn Dagain b29
    replace Xagain := rb2 Xagain b29
    replace Dnone := rdn Dnone b29
    replace Xnone := rb2 Xnone b29
    have Bl29 := btr Bl28 b29 Bl28.out.size
    clear Bl28
    clear b29
    have Dall := lid' d29
    clear d29
    obtain ⟨pX_0, qX_0, nX_0⟩ := xb2 X_0
    go_wp2_with fail
    clear pX_0 qX_0 nX_0
    have ab := ab2 w29_ (.cells #[.slice A29 m29 c29, .int .i64 (r29 : Int)] 24)
    replace HIN3 := rin HIN3 ab
    replace D_0 := rdn D_0 ab
    replace D_1 := rdn D_1 ab
    replace D_2 := rdn D_2 ab
    replace X_0 := rb2 X_0 ab
    replace X_1 := rb2 X_1 ab
    replace X_2 := rb2 X_2 ab
    replace Dand := rdn Dand ab
    replace Xand := rb2 Xand ab
    replace Dback := rdn Dback ab
    replace Xback := rb2 Xback ab
    replace Dor := rdn Dor ab
    replace Xor := rb2 Xor ab
    replace Dac := rdn Dac ab
    replace Xac := rb2 Xac ab
    replace Dbc := rdn Dbc ab
    replace Xbc := rb2 Xbc ab
    replace Dleft := rdn Dleft ab
    replace Xleft := rb2 Xleft ab
    replace Dright := rdn Dright ab
    replace Xright := rb2 Xright ab
    replace Dabs := rdn Dabs ab
    replace Xabs := rb2 Xabs ab
    replace Dna := rdn Dna ab
    replace Xna := rb2 Xna ab
    replace Dnb := rdn Dnb ab
    replace Xnb := rb2 Xnb ab
    replace Dnor := rdn Dnor ab
    replace Xnor := rb2 Xnor ab
    replace Dboth := rdn Dboth ab
    replace Xboth := rb2 Xboth ab
    replace Dagain := rdn Dagain ab
    replace Xagain := rb2 Xagain ab
    replace Dnone := rdn Dnone ab
    replace Xnone := rb2 Xnone ab
    replace Dall := rdn Dall ab
    have Xall := nb2 w29_ (.slice A29 m29 c29) (.int .i64 (r29 : Int)) 24
    have Bl30 := btr Bl29 ab Bl29.out.size
    clear Bl29
    clear ab
    generalize w29_.alloc (.cells #[.slice A29 m29 c29, .int .i64 (r29 : Int)] 24) = x30 at *
    generalize w29_.heap.size = g30 at *
    with_reducible refine (six_xor D_0 Dall HL0 LT HIN3 E_xor).mono ?_
    rintro e w31_ ⟨⟨A31, m31, c31, r31, rfl, d31, _⟩, b31⟩
    replace HIN3 := rin HIN3 b31
    replace D_0 := rdn D_0 b31
    replace D_1 := rdn D_1 b31
    replace D_2 := rdn D_2 b31
    replace X_0 := rb2 X_0 b31
    replace X_1 := rb2 X_1 b31
    replace X_2 := rb2 X_2 b31
    replace Dand := rdn Dand b31
    replace Xand := rb2 Xand b31
    replace Dback := rdn Dback b31
    replace Xback := rb2 Xback b31
    replace Dor := rdn Dor b31
    replace Xor := rb2 Xor b31
    replace Dac := rdn Dac b31
    replace Xac := rb2 Xac b31
    replace Dbc := rdn Dbc b31
    replace Xbc := rb2 Xbc b31
    replace Dleft := rdn Dleft b31
    replace Xleft := rb2 Xleft b31
    replace Dright := rdn Dright b31
    replace Xright := rb2 Xright b31
    replace Dabs := rdn Dabs b31
    replace Xabs := rb2 Xabs b31
    replace Dna := rdn Dna b31
    replace Xna := rb2 Xna b31
    replace Dnb := rdn Dnb b31
    replace Xnb := rb2 Xnb b31
    replace Dnor := rdn Dnor b31
    replace Xnor := rb2 Xnor b31
    replace Dboth := rdn Dboth b31
    replace Xboth := rb2 Xboth b31
    replace Dagain := rdn Dagain b31
    replace Xagain := rb2 Xagain b31
    replace Dnone := rdn Dnone b31
    replace Xnone := rb2 Xnone b31
    replace Dall := rdn Dall b31
    replace Xall := rb2 Xall b31
    have Bl31 := btr Bl30 b31 Bl30.out.size
    clear Bl30
    clear b31
    have Dxor := lid' d31
    clear d31
    obtain ⟨pXand, qXand, nXand⟩ := xb2 Xand
    obtain ⟨pXback, qXback, nXback⟩ := xb2 Xback
    go_wp2_with fail
    clear pXand qXand nXand pXback qXback nXback
    have ab := ab2 w31_ (.cells #[.slice A31 m31 c31, .int .i64 (r31 : Int)] 24)
    replace HIN3 := rin HIN3 ab
    replace D_0 := rdn D_0 ab
    replace D_1 := rdn D_1 ab
    replace D_2 := rdn D_2 ab
    replace X_0 := rb2 X_0 ab
    replace X_1 := rb2 X_1 ab
    replace X_2 := rb2 X_2 ab
    replace Dand := rdn Dand ab
    replace Xand := rb2 Xand ab
    replace Dback := rdn Dback ab
    replace Xback := rb2 Xback ab
    replace Dor := rdn Dor ab
    replace Xor := rb2 Xor ab
    replace Dac := rdn Dac ab
    replace Xac := rb2 Xac ab
    replace Dbc := rdn Dbc ab
    replace Xbc := rb2 Xbc ab
    replace Dleft := rdn Dleft ab
    replace Xleft := rb2 Xleft ab
    replace Dright := rdn Dright ab
    replace Xright := rb2 Xright ab
    replace Dabs := rdn Dabs ab
    replace Xabs := rb2 Xabs ab
    replace Dna := rdn Dna ab
    replace Xna := rb2 Xna ab
    replace Dnb := rdn Dnb ab
    replace Xnb := rb2 Xnb ab
    replace Dnor := rdn Dnor ab
    replace Xnor := rb2 Xnor ab
    replace Dboth := rdn Dboth ab
    replace Xboth := rb2 Xboth ab
    replace Dagain := rdn Dagain ab
    replace Xagain := rb2 Xagain ab
    replace Dnone := rdn Dnone ab
    replace Xnone := rb2 Xnone ab
    replace Dall := rdn Dall ab
    replace Xall := rb2 Xall ab
    replace Dxor := rdn Dxor ab
    have Xxor := nb2 w31_ (.slice A31 m31 c31) (.int .i64 (r31 : Int)) 24
    have Bl32 := btr Bl31 ab Bl31.out.size
    clear Bl31
    clear ab
    generalize w31_.alloc (.cells #[.slice A31 m31 c31, .int .i64 (r31 : Int)] 24) = x32 at *
    generalize w31_.heap.size = g32 at *
    with_reducible refine (same_dn Dand Dback rfl rfl true hsame).mono ?_
    rintro e w33_ ⟨rfl, b33⟩
    replace HIN3 := rin HIN3 b33
    replace D_0 := rdn D_0 b33
    replace D_1 := rdn D_1 b33
    replace D_2 := rdn D_2 b33
    replace X_0 := rb2 X_0 b33
    replace X_1 := rb2 X_1 b33
    replace X_2 := rb2 X_2 b33
    replace Dand := rdn Dand b33
    replace Xand := rb2 Xand b33
    replace Dback := rdn Dback b33
    replace Xback := rb2 Xback b33
    replace Dor := rdn Dor b33
    replace Xor := rb2 Xor b33
    replace Dac := rdn Dac b33
    replace Xac := rb2 Xac b33
    replace Dbc := rdn Dbc b33
    replace Xbc := rb2 Xbc b33
    replace Dleft := rdn Dleft b33
    replace Xleft := rb2 Xleft b33
    replace Dright := rdn Dright b33
    replace Xright := rb2 Xright b33
    replace Dabs := rdn Dabs b33
    replace Xabs := rb2 Xabs b33
    replace Dna := rdn Dna b33
    replace Xna := rb2 Xna b33
    replace Dnb := rdn Dnb b33
    replace Xnb := rb2 Xnb b33
    replace Dnor := rdn Dnor b33
    replace Xnor := rb2 Xnor b33
    replace Dboth := rdn Dboth b33
    replace Xboth := rb2 Xboth b33
    replace Dagain := rdn Dagain b33
    replace Xagain := rb2 Xagain b33
    replace Dnone := rdn Dnone b33
    replace Xnone := rb2 Xnone b33
    replace Dall := rdn Dall b33
    replace Xall := rb2 Xall b33
    replace Dxor := rdn Dxor b33
    replace Xxor := rb2 Xxor b33
    have Bl33 := btr Bl32 b33 Bl32.out.size
    clear Bl32
    clear b33
    clear Xand Dand
    clear Xback Dback
    obtain ⟨pXleft, qXleft, nXleft⟩ := xb2 Xleft
    obtain ⟨pXright, qXright, nXright⟩ := xb2 Xright
    go_wp2_with fail
    clear pXleft qXleft nXleft pXright qXright nXright
    with_reducible refine (same_dn Dleft Dright rfl rfl true hsame).mono ?_
    rintro e w34_ ⟨rfl, b34⟩
    replace HIN3 := rin HIN3 b34
    replace D_0 := rdn D_0 b34
    replace D_1 := rdn D_1 b34
    replace D_2 := rdn D_2 b34
    replace X_0 := rb2 X_0 b34
    replace X_1 := rb2 X_1 b34
    replace X_2 := rb2 X_2 b34
    replace Dor := rdn Dor b34
    replace Xor := rb2 Xor b34
    replace Dac := rdn Dac b34
    replace Xac := rb2 Xac b34
    replace Dbc := rdn Dbc b34
    replace Xbc := rb2 Xbc b34
    replace Dleft := rdn Dleft b34
    replace Xleft := rb2 Xleft b34
    replace Dright := rdn Dright b34
    replace Xright := rb2 Xright b34
    replace Dabs := rdn Dabs b34
    replace Xabs := rb2 Xabs b34
    replace Dna := rdn Dna b34
    replace Xna := rb2 Xna b34
    replace Dnb := rdn Dnb b34
    replace Xnb := rb2 Xnb b34
    replace Dnor := rdn Dnor b34
    replace Xnor := rb2 Xnor b34
    replace Dboth := rdn Dboth b34
    replace Xboth := rb2 Xboth b34
    replace Dagain := rdn Dagain b34
    replace Xagain := rb2 Xagain b34
    replace Dnone := rdn Dnone b34
    replace Xnone := rb2 Xnone b34
    replace Dall := rdn Dall b34
    replace Xall := rb2 Xall b34
    replace Dxor := rdn Dxor b34
    replace Xxor := rb2 Xxor b34
    have Bl34 := btr Bl33 b34 Bl33.out.size
    clear Bl33
    clear b34
    clear Xleft Dleft
    clear Xright Dright
    obtain ⟨pXabs, qXabs, nXabs⟩ := xb2 Xabs
    obtain ⟨pX_0, qX_0, nX_0⟩ := xb2 X_0
    go_wp2_with fail
    clear pXabs qXabs nXabs pX_0 qX_0 nX_0
    with_reducible refine (same_dn Dabs D_0 rfl rfl true hsame).mono ?_
    rintro e w35_ ⟨rfl, b35⟩
    replace HIN3 := rin HIN3 b35
    replace D_0 := rdn D_0 b35
    replace D_1 := rdn D_1 b35
    replace D_2 := rdn D_2 b35
    replace X_0 := rb2 X_0 b35
    replace X_1 := rb2 X_1 b35
    replace X_2 := rb2 X_2 b35
    replace Dor := rdn Dor b35
    replace Xor := rb2 Xor b35
    replace Dac := rdn Dac b35
    replace Xac := rb2 Xac b35
    replace Dbc := rdn Dbc b35
    replace Xbc := rb2 Xbc b35
    replace Dabs := rdn Dabs b35
    replace Xabs := rb2 Xabs b35
    replace Dna := rdn Dna b35
    replace Xna := rb2 Xna b35
    replace Dnb := rdn Dnb b35
    replace Xnb := rb2 Xnb b35
    replace Dnor := rdn Dnor b35
    replace Xnor := rb2 Xnor b35
    replace Dboth := rdn Dboth b35
    replace Xboth := rb2 Xboth b35
    replace Dagain := rdn Dagain b35
    replace Xagain := rb2 Xagain b35
    replace Dnone := rdn Dnone b35
    replace Xnone := rb2 Xnone b35
    replace Dall := rdn Dall b35
    replace Xall := rb2 Xall b35
    replace Dxor := rdn Dxor b35
    replace Xxor := rb2 Xxor b35
    have Bl35 := btr Bl34 b35 Bl34.out.size
    clear Bl34
    clear b35
    clear Xabs Dabs
    obtain ⟨pXnor, qXnor, nXnor⟩ := xb2 Xnor
    obtain ⟨pXboth, qXboth, nXboth⟩ := xb2 Xboth
    go_wp2_with fail
    clear pXnor qXnor nXnor pXboth qXboth nXboth
    with_reducible refine (same_dn Dnor Dboth rfl rfl true hsame).mono ?_
    rintro e w36_ ⟨rfl, b36⟩
    replace HIN3 := rin HIN3 b36
    replace D_0 := rdn D_0 b36
    replace D_1 := rdn D_1 b36
    replace D_2 := rdn D_2 b36
    replace X_0 := rb2 X_0 b36
    replace X_1 := rb2 X_1 b36
    replace X_2 := rb2 X_2 b36
    replace Dor := rdn Dor b36
    replace Xor := rb2 Xor b36
    replace Dac := rdn Dac b36
    replace Xac := rb2 Xac b36
    replace Dbc := rdn Dbc b36
    replace Xbc := rb2 Xbc b36
    replace Dna := rdn Dna b36
    replace Xna := rb2 Xna b36
    replace Dnb := rdn Dnb b36
    replace Xnb := rb2 Xnb b36
    replace Dnor := rdn Dnor b36
    replace Xnor := rb2 Xnor b36
    replace Dboth := rdn Dboth b36
    replace Xboth := rb2 Xboth b36
    replace Dagain := rdn Dagain b36
    replace Xagain := rb2 Xagain b36
    replace Dnone := rdn Dnone b36
    replace Xnone := rb2 Xnone b36
    replace Dall := rdn Dall b36
    replace Xall := rb2 Xall b36
    replace Dxor := rdn Dxor b36
    replace Xxor := rb2 Xxor b36
    have Bl36 := btr Bl35 b36 Bl35.out.size
    clear Bl35
    clear b36
    clear Xnor Dnor
    clear Xboth Dboth
    obtain ⟨pXagain, qXagain, nXagain⟩ := xb2 Xagain
    obtain ⟨pX_0, qX_0, nX_0⟩ := xb2 X_0
    go_wp2_with fail
    clear pXagain qXagain nXagain pX_0 qX_0 nX_0
    with_reducible refine (same_dn Dagain D_0 rfl rfl true hsame).mono ?_
    rintro e w37_ ⟨rfl, b37⟩
    replace HIN3 := rin HIN3 b37
    replace D_0 := rdn D_0 b37
    replace D_1 := rdn D_1 b37
    replace D_2 := rdn D_2 b37
    replace X_0 := rb2 X_0 b37
    replace X_1 := rb2 X_1 b37
    replace X_2 := rb2 X_2 b37
    replace Dor := rdn Dor b37
    replace Xor := rb2 Xor b37
    replace Dac := rdn Dac b37
    replace Xac := rb2 Xac b37
    replace Dbc := rdn Dbc b37
    replace Xbc := rb2 Xbc b37
    replace Dna := rdn Dna b37
    replace Xna := rb2 Xna b37
    replace Dnb := rdn Dnb b37
    replace Xnb := rb2 Xnb b37
    replace Dagain := rdn Dagain b37
    replace Xagain := rb2 Xagain b37
    replace Dnone := rdn Dnone b37
    replace Xnone := rb2 Xnone b37
    replace Dall := rdn Dall b37
    replace Xall := rb2 Xall b37
    replace Dxor := rdn Dxor b37
    replace Xxor := rb2 Xxor b37
    have Bl37 := btr Bl36 b37 Bl36.out.size
    clear Bl36
    clear b37
    clear Xagain Dagain
    clear Xor Dor
    clear Xbc Dbc
    clear Xac Dac
    clear Xnb Dnb
    clear X_0 D_0 X_1 D_1 X_2 D_2
    go_wp2
    have dr := (Below.refl w37_.heap.size w37_).drew
    replace HIN3 := rin HIN3 dr
    replace Dna := rdn Dna dr
    replace Xna := rb2 Xna dr
    replace Dnone := rdn Dnone dr
    replace Xnone := rb2 Xnone dr
    replace Dall := rdn Dall dr
    replace Xall := rb2 Xall dr
    replace Dxor := rdn Dxor dr
    replace Xxor := rb2 Xxor dr
    have Bl38 := btr Bl37 dr Bl37.out.size
    clear Bl37
    clear dr
    obtain ⟨pXnone, qXnone, nXnone⟩ := xb2 Xnone
    obtain ⟨pXall, qXall, nXall⟩ := xb2 Xall
    obtain ⟨pXxor, qXxor, nXxor⟩ := xb2 Xxor
    obtain ⟨pXna, qXna, nXna⟩ := xb2 Xna
    go_region_held3 (fun w' => w'.cell? ⟨g28, 0, none⟩ = some (.slice A27 m27 c27) ∧ w'.cell? ⟨g28, 1, none⟩ = some (.int .i64 (r27 : Int)) ∧ w'.cell? ⟨g30, 0, none⟩ = some (.slice A29 m29 c29) ∧ w'.cell? ⟨g30, 1, none⟩ = some (.int .i64 (r29 : Int)) ∧ w'.cell? ⟨g32, 0, none⟩ = some (.slice A31 m31 c31) ∧ w'.cell? ⟨g32, 1, none⟩ = some (.int .i64 (r31 : Int)) ∧ w'.cell? ⟨g18, 0, none⟩ = some (.slice A17 m17 c17) ∧ w'.cell? ⟨g18, 1, none⟩ = some (.int .i64 (r17 : Int))) (first | (refine ⟨?_, ?_, ?_, ?_, ?_, ?_, ?_, ?_⟩ <;> (with_reducible assumption)) | go_keep) ((first
        | (have _kq := Bl42; go_at_call 24; (with_reducible refine (same_dn (w := w42_) Dxor Dna rfl rfl true hsame).mono ?_); rintro e w43_ ⟨rfl, b43⟩; replace HIN3 := rin HIN3 b43; replace Dna := rdn Dna b43; replace Xna := rb2 Xna b43; replace Dnone := rdn Dnone b43; replace Xnone := rb2 Xnone b43; replace Dall := rdn Dall b43; replace Xall := rb2 Xall b43; replace Dxor := rdn Dxor b43; replace Xxor := rb2 Xxor b43; have Bl43 := btr Bl42 b43 Bl42.out.size; obtain ⟨pXnone, qXnone, nXnone⟩ := xb2 Xnone; obtain ⟨pXall, qXall, nXall⟩ := xb2 Xall; obtain ⟨pXxor, qXxor, nXxor⟩ := xb2 Xxor; obtain ⟨pXna, qXna, nXna⟩ := xb2 Xna; clear b43)
        | (have _kq := Bl41; go_at_call 24; (with_reducible refine (same_dn (w := w41_) (R' := 1) Dall (lid' (dn_true4 w41_)) rfl rfl true hsame).mono ?_); rintro e w42_ ⟨rfl, b42⟩; replace HIN3 := rin HIN3 b42; replace Dna := rdn Dna b42; replace Xna := rb2 Xna b42; replace Dnone := rdn Dnone b42; replace Xnone := rb2 Xnone b42; replace Dall := rdn Dall b42; replace Xall := rb2 Xall b42; replace Dxor := rdn Dxor b42; replace Xxor := rb2 Xxor b42; have Bl42 := btr Bl41 b42 Bl41.out.size; obtain ⟨pXnone, qXnone, nXnone⟩ := xb2 Xnone; obtain ⟨pXall, qXall, nXall⟩ := xb2 Xall; obtain ⟨pXxor, qXxor, nXxor⟩ := xb2 Xxor; obtain ⟨pXna, qXna, nXna⟩ := xb2 Xna; clear b42)
        | (have _kq := Bl40; go_at_call 52; (with_reducible refine (const_one4 w40_).mono ?_); rintro e w41_ ⟨rfl, b41⟩; replace HIN3 := rin HIN3 b41; replace Dna := rdn Dna b41; replace Xna := rb2 Xna b41; replace Dnone := rdn Dnone b41; replace Xnone := rb2 Xnone b41; replace Dall := rdn Dall b41; replace Xall := rb2 Xall b41; replace Dxor := rdn Dxor b41; replace Xxor := rb2 Xxor b41; have Bl41 := btr Bl40 b41 Bl40.out.size; obtain ⟨pXnone, qXnone, nXnone⟩ := xb2 Xnone; obtain ⟨pXall, qXall, nXall⟩ := xb2 Xall; obtain ⟨pXxor, qXxor, nXxor⟩ := xb2 Xxor; obtain ⟨pXna, qXna, nXna⟩ := xb2 Xna; clear b41)
        | (have _kq := Bl39; go_at_call 24; (with_reducible refine (same_dn (w := w39_) (R' := 0) Dnone (lid' (dn_false4 w39_)) rfl rfl true hsame).mono ?_); rintro e w40_ ⟨rfl, b40⟩; replace HIN3 := rin HIN3 b40; replace Dna := rdn Dna b40; replace Xna := rb2 Xna b40; replace Dnone := rdn Dnone b40; replace Xnone := rb2 Xnone b40; replace Dall := rdn Dall b40; replace Xall := rb2 Xall b40; replace Dxor := rdn Dxor b40; replace Xxor := rb2 Xxor b40; have Bl40 := btr Bl39 b40 Bl39.out.size; obtain ⟨pXnone, qXnone, nXnone⟩ := xb2 Xnone; obtain ⟨pXall, qXall, nXall⟩ := xb2 Xall; obtain ⟨pXxor, qXxor, nXxor⟩ := xb2 Xxor; obtain ⟨pXna, qXna, nXna⟩ := xb2 Xna; clear b40)
        | (go_at_call 52; (with_reducible refine (const_nil4 w37_.drew).mono ?_); rintro e w39_ ⟨rfl, b39⟩; replace HIN3 := rin HIN3 b39; replace Dna := rdn Dna b39; replace Xna := rb2 Xna b39; replace Dnone := rdn Dnone b39; replace Xnone := rb2 Xnone b39; replace Dall := rdn Dall b39; replace Xall := rb2 Xall b39; replace Dxor := rdn Dxor b39; replace Xxor := rb2 Xxor b39; have Bl39 := btr Bl38 b39 Bl38.out.size; obtain ⟨pXnone, qXnone, nXnone⟩ := xb2 Xnone; obtain ⟨pXall, qXall, nXall⟩ := xb2 Xall; obtain ⟨pXxor, qXxor, nXxor⟩ := xb2 Xxor; obtain ⟨pXna, qXna, nXna⟩ := xb2 Xna; clear b39)))
    all_goals (go_wp2; go_ret; exact ⟨rfl, Bl43.out⟩)

end Go.Proofs.YtpeahjfkiehniaaDoor
