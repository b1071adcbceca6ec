/-
  DiagramOperations: a configuration is in a complement, an intersection, a union, a symmetric difference and a choice exactly if the definition says so. (Written by lops.py.)
-/
import Derived.Test.YtpeahjfkiehniaaDoorMk
import Derived.Test.YtpeahjfkiehniaaDoorMi
import Derived.Test.YtpeahjfkiehniaaDoorMu
import Derived.Test.YtpeahjfkiehniaaDoorMr
import Derived.Test.YtpeahjfkiehniaaDoorMo
namespace Go.Proofs.YtpeahjfkiehniaaDoor
open Go.RowKit Dg St
attribute [local go_sem ↓] Go.wp_at_zero Go.wp_at_succ


set_option maxHeartbeats 8000000 in
set_option maxRecDepth 100000 in
theorem lawOps_walk (N0 n0 c0 : Nat) (A0 : Option Addr) (l0 : List Nat) (N1 n1 c1 : Nat) (A1 : Option Addr) (l1 : List Nat) (N2 n2 c2 : Nat) (A2 : Option Addr) (l2 : List Nat) (x : Nat) (w : World) (hN0 : N0 < 256) (h80 : Hid (R8 w A0 n0 l0)) (hn0 : n0 ≤ 9223372036854775807) (hN1 : N1 < 256) (h81 : Hid (R8 w A1 n1 l1)) (hn1 : n1 ≤ 9223372036854775807) (hN2 : N2 < 256) (h82 : Hid (R8 w A2 n2 l2)) (hn2 : n2 ≤ 9223372036854775807) (hx : x < 18446744073709551616) (HIN : Hid (Ins w 0)) :
    Calls Tryd.prog 6 #[.agg #[.slice A0 n0 c0, .int .u8 (N0 : Int), .slice A1 n1 c1, .int .u8 (N1 : Int), .slice A2 n2 c2, .int .u8 (N2 : Int)], .int .u64 (x : Int)] w fun e w' => e = .returned (.bool true) ∧ Below w.heap.size w w' := by
  have XR : Hid (Blk (w.alloc (.cells #[.slice A0 n0 c0, .int .u8 (N0 : Int), .slice A1 n1 c1, .int .u8 (N1 : Int), .slice A2 n2 c2, .int .u8 (N2 : Int)] 61)) w.heap.size 6 (fun i => [(.slice A0 n0 c0 : Value), (.int .u8 (N0 : Int) : Value), (.slice A1 n1 c1 : Value), (.int .u8 (N1 : Int) : Value), (.slice A2 n2 c2 : Value), (.int .u8 (N2 : Int) : Value)].getD i undef)) := Lib.hid (Blk.new (w := w) rfl [.slice A0 n0 c0, .int .u8 (N0 : Int), .slice A1 n1 c1, .int .u8 (N1 : Int), .slice A2 n2 c2, .int .u8 (N2 : Int)] 61)
  have HB0 := Lib.hid (ab2 w (.cells #[.slice A0 n0 c0, .int .u8 (N0 : Int), .slice A1 n1 c1, .int .u8 (N1 : Int), .slice A2 n2 c2, .int .u8 (N2 : Int)] 61))
  have HIN0 := rin HIN HB0.out
  have hm0 : ∀ w', Below w.heap.size w w' → Calls Tryd.prog 51 #[.agg #[.slice A0 n0 c0, .int .u8 (N0 : Int)]] w' fun e w'' => DiaOk w' w'' (sset l0 N0) e :=
    fun w' hb => lmade_ok N0 n0 c0 A0 l0 w' (Lib.hid (h80.out.below hb)) hN0 hn0
  have HL0 := Lib.hid (sset_low l0 N0)
  have hm1 : ∀ w', Below w.heap.size w w' → Calls Tryd.prog 51 #[.agg #[.slice A1 n1 c1, .int .u8 (N1 : Int)]] w' fun e w'' => DiaOk w' w'' (sset l1 N1) e :=
    fun w' hb => lmade_ok N1 n1 c1 A1 l1 w' (Lib.hid (h81.out.below hb)) hN1 hn1
  have HL1 := Lib.hid (sset_low l1 N1)
  have hm2 : ∀ w', Below w.heap.size w w' → Calls Tryd.prog 51 #[.agg #[.slice A2 n2 c2, .int .u8 (N2 : Int)]] w' fun e w'' => DiaOk w' w'' (sset l2 N2) e :=
    fun w' hb => lmade_ok N2 n2 c2 A2 l2 w' (Lib.hid (h82.out.below hb)) hN2 hn2
  have HL2 := Lib.hid (sset_low l2 N2)
  generalize sset l0 N0 = fa at *
  generalize sset l1 N1 = fb at *
  generalize sset l2 N2 = fc at *
  go_enter Tryd.func6, Tryd.ntmps6
  go_wp2_with fail
  with_reducible refine (sanity_ok _ HIN0).mono ?_
  rintro e w2 ⟨rfl, b2⟩
  replace XR := lid' (XR.out.below (by omega) b2)
  have HB2 := btr HB0 b2 HB0.out.size
  have HIN2 := rin HIN0 b2
  clear b2 HB0 HIN0
  have HM0 : Hid (∀ w', Below w2.heap.size w2 w' → Calls Tryd.prog 51 #[.agg #[.slice A0 n0 c0, .int .u8 (N0 : Int)]] w' fun e w'' => DiaOk w' w'' fa e) := fun w' hb => hm0 w' (HB2.out.trans (hb.mono HB2.out.size))
  have HM1 : Hid (∀ w', Below w2.heap.size w2 w' → Calls Tryd.prog 51 #[.agg #[.slice A1 n1 c1, .int .u8 (N1 : Int)]] w' fun e w'' => DiaOk w' w'' fb e) := fun w' hb => hm1 w' (HB2.out.trans (hb.mono HB2.out.size))
  have HM2 : Hid (∀ w', Below w2.heap.size w2 w' → Calls Tryd.prog 51 #[.agg #[.slice A2 n2 c2, .int .u8 (N2 : Int)]] w' fun e w'' => DiaOk w' w'' fc e) := fun w' hb => hm2 w' (HB2.out.trans (hb.mono HB2.out.size))
  clear hm0 hm1 hm2
  obtain ⟨ff, hff0, hff1, hff2⟩ : ∃ ff : Nat → Cfg → Bool, ff 0 = fa ∧ ff 1 = fb ∧ ff 2 = fc := ⟨fun i => if i = 0 then fa else if i = 1 then fb else fc, rfl, rfl, rfl⟩
  obtain ⟨argv, hav0, hav1, hav2⟩ : ∃ argv : Nat → Value, argv 0 = .agg #[.slice A0 n0 c0, .int .u8 (N0 : Int)] ∧ argv 1 = .agg #[.slice A1 n1 c1, .int .u8 (N1 : Int)] ∧ argv 2 = .agg #[.slice A2 n2 c2, .int .u8 (N2 : Int)] := ⟨fun i => if i = 0 then .agg #[.slice A0 n0 c0, .int .u8 (N0 : Int)] else if i = 1 then .agg #[.slice A1 n1 c1, .int .u8 (N1 : Int)] else .agg #[.slice A2 n2 c2, .int .u8 (N2 : Int)], rfl, rfl, rfl⟩
  obtain ⟨iv', hiw0, hiw1, hiw2⟩ : ∃ iv' : Nat → Value, iv' 0 = .pointer (some ⟨w.heap.size, 0, none⟩) ∧ iv' 1 = .pointer (some ⟨w.heap.size, 2, none⟩) ∧ iv' 2 = .pointer (some ⟨w.heap.size, 4, none⟩) := ⟨fun i => if i = 0 then .pointer (some ⟨w.heap.size, 0, none⟩) else if i = 1 then .pointer (some ⟨w.heap.size, 2, none⟩) else .pointer (some ⟨w.heap.size, 4, none⟩), rfl, rfl, rfl⟩
  rw [← hff0] at HM0
  rw [← hff1] at HM1
  rw [← hff2] at HM2
  go_wp2
  refine wp_region_any (by kernel_rfl) ?_
  change wpAny _ _ _ _ _ _ _ (World.drew _)
  refine wpAny_named (fun a0 ha0 => ?_)
  refine wpAny_inv (fun l a' w' => ∃ (bi bl bc ba bs : Nat → Bool) (vi vl vc vp : Nat → Value) (D : MkD), l = #[bi 0, bl 0, bc 0, bi 1, bl 1, bc 1, bi 2, bl 2, bc 2, ba 0, ba 1, ba 2, bs 0, bs 1, bs 2] ∧ a' = ((((((((((((a0.put (some 26) (vi 0)).put (some 29) (vi 1)).put (some 32) (vi 2)).put (some 27) (vl 0)).put (some 30) (vl 1)).put (some 33) (vl 2)).put (some 28) (vc 0)).put (some 31) (vc 1)).put (some 34) (vc 2)).put (some 6) (vp 0)).put (some 7) (vp 1)).put (some 8) (vp 2)) ∧ (∀ i, bi i = true → vi i = iv' i) ∧ (∀ i, bl i = true → vl i = argv i) ∧ Mks w2 w' ff bc ba bs vc vp D) ?_ ?_ _ _ _ _ ⟨fun _ => false, fun _ => false, fun _ => false, fun _ => false, fun _ => false, fun _ => undef, fun _ => undef, fun _ => undef, fun _ => undef, ⟨fun _ => none, fun _ => 0, fun _ => 0, fun _ => 0, fun _ => 0⟩, rfl, by subst ha0; (simp only [Act.put, List.setIfInBounds_toArray, List.set_cons_succ, List.set_cons_zero] <;> rfl), (fun _ h => by cases h), (fun _ h => by cases h), Mks.start (Below.refl _ _).drew _ _ _ _⟩ (by rfl) (by decide)
  rotate_left
  · rintro l a' w' ⟨bi, bl, bc, ba, bs, vi, vl, vc, vp, D, rfl, rfl, hiv, hv, hM⟩ i hi
    obtain ⟨h0, o, ho, hall⟩ := mem_ready.1 hi
    have hlt : i < 15 := (Array.getElem?_eq_some_iff.1 ho).1
    clear hi
    rcases (by omega : i = 0 ∨ i = 1 ∨ i = 2 ∨ i = 3 ∨ i = 4 ∨ i = 5 ∨ i = 6 ∨ i = 7 ∨ i = 8 ∨ i = 9 ∨ i = 10 ∨ i = 11 ∨ i = 12 ∨ i = 13 ∨ i = 14) with rfl | rfl | rfl | rfl | rfl | rfl | rfl | rfl | rfl | rfl | rfl | rfl | rfl | rfl | rfl
    · replace h0 : bi 0 = false := h0
      have ho' := (Option.some.inj ho).symm
      subst ho'
      clear hall ho
      subst ha0
      refine wpOp_step rfl (fun K hK => ?_)
      go_simp
      refine hK _ _ ⟨up1 bi 0 true, bl, bc, ba, bs, up1 vi 0 (.pointer (some ⟨w.heap.size, 0, none⟩)), vl, vc, vp, D, rfl, by (simp only [Act.put, List.setIfInBounds_toArray, List.set_cons_succ, List.set_cons_zero, up1] <;> rfl), fun q hq => ?_, hv, hM⟩
      by_cases e : q = 0
      · subst e; rw [up1_at]; exact hiw0.symm
      · rw [up1_ne _ _ e] at hq ⊢; exact hiv q hq
    · replace h0 : bl 0 = false := h0
      have ho' := (Option.some.inj ho).symm
      subst ho'
      have k0 : bi 0 = true := hall ⟨0, .data⟩ (by simp) rfl
      have hvi := hiv 0 k0
      rw [hiw0] at hvi
      clear hall ho
      have hx := lid' (XR.out.below (by omega) hM.bel)
      have x0 : w'.cell? ⟨w.heap.size, 0, none⟩ = some (.slice A0 n0 c0) := (hx.out 0 (by omega)).1
      have x1 : w'.cell? ⟨w.heap.size, 1, none⟩ = some (.int .u8 (N0 : Int)) := (hx.out 1 (by omega)).1
      have xn := hx.out.lt (by omega)
      subst ha0
      generalize hww : vi 0 = ww at *
      subst hvi
      refine wpOp_step rfl (fun K hK => ?_)
      go_simp
      refine hK _ _ ⟨bi, up1 bl 0 true, bc, ba, bs, vi, up1 vl 0 (.agg #[.slice A0 n0 c0, .int .u8 (N0 : Int)]), vc, vp, D, rfl, by rw [hww]; (simp only [Act.put, List.setIfInBounds_toArray, List.set_cons_succ, List.set_cons_zero, up1] <;> rfl), hiv, fun q hq => ?_, hM⟩
      by_cases e : q = 0
      · subst e; rw [up1_at]; exact hav0.symm
      · rw [up1_ne _ _ e] at hq ⊢; exact hv q hq
    · replace h0 : bc 0 = false := h0
      have ho' := (Option.some.inj ho).symm
      subst ho'
      have k1 : bl 0 = true := hall ⟨1, .data⟩ (by simp) rfl
      have hvl := hv 0 k1
      rw [hav0] at hvl
      clear hall ho
      subst ha0
      generalize hvv : vl 0 = vv at *
      refine wpOp_step rfl (fun K hK => ?_)
      subst hvl
      go_simp
      go_at_call 51
      with_reducible refine (HM0.out w' hM.bel).mono ?_
      rintro e w9 ⟨⟨A9, m9, c9, r9, rfl, d9, f9⟩, b9⟩
      go_simp
      refine hK _ _ ⟨bi, bl, up1 bc 0 true, ba, bs, vi, vl, up1 vc 0 (.agg #[.slice A9 m9 c9, .int .i64 (r9 : Int)]), vp, _, rfl, by rw [hvv]; (simp only [Act.put, List.setIfInBounds_toArray, List.set_cons_succ, List.set_cons_zero, up1] <;> rfl), hiv, hv, hM.call 0 h0 d9 f9 b9⟩
    · replace h0 : bi 1 = false := h0
      have ho' := (Option.some.inj ho).symm
      subst ho'
      clear hall ho
      subst ha0
      refine wpOp_step rfl (fun K hK => ?_)
      go_simp
      refine hK _ _ ⟨up1 bi 1 true, bl, bc, ba, bs, up1 vi 1 (.pointer (some ⟨w.heap.size, 2, none⟩)), vl, vc, vp, D, rfl, by (simp only [Act.put, List.setIfInBounds_toArray, List.set_cons_succ, List.set_cons_zero, up1] <;> rfl), fun q hq => ?_, hv, hM⟩
      by_cases e : q = 1
      · subst e; rw [up1_at]; exact hiw1.symm
      · rw [up1_ne _ _ e] at hq ⊢; exact hiv q hq
    · replace h0 : bl 1 = false := h0
      have ho' := (Option.some.inj ho).symm
      subst ho'
      have k3 : bi 1 = true := hall ⟨3, .data⟩ (by simp) rfl
      have hvi := hiv 1 k3
      rw [hiw1] at hvi
      clear hall ho
      have hx := lid' (XR.out.below (by omega) hM.bel)
      have x0 : w'.cell? ⟨w.heap.size, 2, none⟩ = some (.slice A1 n1 c1) := (hx.out 2 (by omega)).1
      have x1 : w'.cell? ⟨w.heap.size, 3, none⟩ = some (.int .u8 (N1 : Int)) := (hx.out 3 (by omega)).1
      have xn := hx.out.lt (by omega)
      subst ha0
      generalize hww : vi 1 = ww at *
      subst hvi
      refine wpOp_step rfl (fun K hK => ?_)
      go_simp
      refine hK _ _ ⟨bi, up1 bl 1 true, bc, ba, bs, vi, up1 vl 1 (.agg #[.slice A1 n1 c1, .int .u8 (N1 : Int)]), vc, vp, D, rfl, by rw [hww]; (simp only [Act.put, List.setIfInBounds_toArray, List.set_cons_succ, List.set_cons_zero, up1] <;> rfl), hiv, fun q hq => ?_, hM⟩
      by_cases e : q = 1
      · subst e; rw [up1_at]; exact hav1.symm
      · rw [up1_ne _ _ e] at hq ⊢; exact hv q hq
    · replace h0 : bc 1 = false := h0
      have ho' := (Option.some.inj ho).symm
      subst ho'
      have k4 : bl 1 = true := hall ⟨4, .data⟩ (by simp) rfl
      have hvl := hv 1 k4
      rw [hav1] at hvl
      clear hall ho
      subst ha0
      generalize hvv : vl 1 = vv at *
      refine wpOp_step rfl (fun K hK => ?_)
      subst hvl
      go_simp
      go_at_call 51
      with_reducible refine (HM1.out w' hM.bel).mono ?_
      rintro e w9 ⟨⟨A9, m9, c9, r9, rfl, d9, f9⟩, b9⟩
      go_simp
      refine hK _ _ ⟨bi, bl, up1 bc 1 true, ba, bs, vi, vl, up1 vc 1 (.agg #[.slice A9 m9 c9, .int .i64 (r9 : Int)]), vp, _, rfl, by rw [hvv]; (simp only [Act.put, List.setIfInBounds_toArray, List.set_cons_succ, List.set_cons_zero, up1] <;> rfl), hiv, hv, hM.call 1 h0 d9 f9 b9⟩
    · replace h0 : bi 2 = false := h0
      have ho' := (Option.some.inj ho).symm
      subst ho'
      clear hall ho
      subst ha0
      refine wpOp_step rfl (fun K hK => ?_)
      go_simp
      refine hK _ _ ⟨up1 bi 2 true, bl, bc, ba, bs, up1 vi 2 (.pointer (some ⟨w.heap.size, 4, none⟩)), vl, vc, vp, D, rfl, by (simp only [Act.put, List.setIfInBounds_toArray, List.set_cons_succ, List.set_cons_zero, up1] <;> rfl), fun q hq => ?_, hv, hM⟩
      by_cases e : q = 2
      · subst e; rw [up1_at]; exact hiw2.symm
      · rw [up1_ne _ _ e] at hq ⊢; exact hiv q hq
    · replace h0 : bl 2 = false := h0
      have ho' := (Option.some.inj ho).symm
      subst ho'
      have k6 : bi 2 = true := hall ⟨6, .data⟩ (by simp) rfl
      have hvi := hiv 2 k6
      rw [hiw2] at hvi
      clear hall ho
      have hx := lid' (XR.out.below (by omega) hM.bel)
      have x0 : w'.cell? ⟨w.heap.size, 4, none⟩ = some (.slice A2 n2 c2) := (hx.out 4 (by omega)).1
      have x1 : w'.cell? ⟨w.heap.size, 5, none⟩ = some (.int .u8 (N2 : Int)) := (hx.out 5 (by omega)).1
      have xn := hx.out.lt (by omega)
      subst ha0
      generalize hww : vi 2 = ww at *
      subst hvi
      refine wpOp_step rfl (fun K hK => ?_)
      go_simp
      refine hK _ _ ⟨bi, up1 bl 2 true, bc, ba, bs, vi, up1 vl 2 (.agg #[.slice A2 n2 c2, .int .u8 (N2 : Int)]), vc, vp, D, rfl, by rw [hww]; (simp only [Act.put, List.setIfInBounds_toArray, List.set_cons_succ, List.set_cons_zero, up1] <;> rfl), hiv, fun q hq => ?_, hM⟩
      by_cases e : q = 2
      · subst e; rw [up1_at]; exact hav2.symm
      · rw [up1_ne _ _ e] at hq ⊢; exact hv q hq
    · replace h0 : bc 2 = false := h0
      have ho' := (Option.some.inj ho).symm
      subst ho'
      have k7 : bl 2 = true := hall ⟨7, .data⟩ (by simp) rfl
      have hvl := hv 2 k7
      rw [hav2] at hvl
      clear hall ho
      subst ha0
      generalize hvv : vl 2 = vv at *
      refine wpOp_step rfl (fun K hK => ?_)
      subst hvl
      go_simp
      go_at_call 51
      with_reducible refine (HM2.out w' hM.bel).mono ?_
      rintro e w9 ⟨⟨A9, m9, c9, r9, rfl, d9, f9⟩, b9⟩
      go_simp
      refine hK _ _ ⟨bi, bl, up1 bc 2 true, ba, bs, vi, vl, up1 vc 2 (.agg #[.slice A9 m9 c9, .int .i64 (r9 : Int)]), vp, _, rfl, by rw [hvv]; (simp only [Act.put, List.setIfInBounds_toArray, List.set_cons_succ, List.set_cons_zero, up1] <;> rfl), hiv, hv, hM.call 2 h0 d9 f9 b9⟩
    · replace h0 : ba 0 = false := h0
      have ho' := (Option.some.inj ho).symm
      subst ho'
      clear hall ho
      subst ha0
      refine wpOp_step rfl (fun K hK => ?_)
      go_simp
      exact hK _ _ ⟨bi, bl, bc, up1 ba 0 true, bs, vi, vl, vc, up1 vp 0 (.pointer (some ⟨w'.heap.size, 0, none⟩)), _, rfl, by (simp only [Act.put, List.setIfInBounds_toArray, List.set_cons_succ, List.set_cons_zero, up1] <;> rfl), hiv, hv, hM.laid 0 h0 24⟩
    · replace h0 : ba 1 = false := h0
      have ho' := (Option.some.inj ho).symm
      subst ho'
      clear hall ho
      subst ha0
      refine wpOp_step rfl (fun K hK => ?_)
      go_simp
      exact hK _ _ ⟨bi, bl, bc, up1 ba 1 true, bs, vi, vl, vc, up1 vp 1 (.pointer (some ⟨w'.heap.size, 0, none⟩)), _, rfl, by (simp only [Act.put, List.setIfInBounds_toArray, List.set_cons_succ, List.set_cons_zero, up1] <;> rfl), hiv, hv, hM.laid 1 h0 24⟩
    · replace h0 : ba 2 = false := h0
      have ho' := (Option.some.inj ho).symm
      subst ho'
      clear hall ho
      subst ha0
      refine wpOp_step rfl (fun K hK => ?_)
      go_simp
      exact hK _ _ ⟨bi, bl, bc, up1 ba 2 true, bs, vi, vl, vc, up1 vp 2 (.pointer (some ⟨w'.heap.size, 0, none⟩)), _, rfl, by (simp only [Act.put, List.setIfInBounds_toArray, List.set_cons_succ, List.set_cons_zero, up1] <;> rfl), hiv, hv, hM.laid 2 h0 24⟩
    · replace h0 : bs 0 = false := h0
      have ho' := (Option.some.inj ho).symm
      subst ho'
      have k9 : ba 0 = true := hall ⟨9, .data⟩ (by simp) rfl
      have k2 : bc 0 = true := hall ⟨2, .data⟩ (by simp) rfl
      have hc := hM.pc 0 k2
      have hp := hM.pa 0 k9
      have hz := hM.pz 0 k9 h0
      have hS := hM.stored 0 k2 k9 h0
      obtain ⟨z0, z1⟩ := hz 0 (by omega)
      obtain ⟨y0, y1⟩ := hz 1 (by omega)
      clear hall ho
      subst ha0
      generalize hvc : vc 0 = cc at *
      generalize hvp : vp 0 = pp at *
      subst hc
      subst hp
      refine wpOp_step rfl (fun K hK => ?_)
      go_simp
      exact hK _ _ ⟨bi, bl, bc, ba, up1 bs 0 true, vi, vl, vc, vp, D, rfl, by rw [hvc, hvp]; (simp only [Act.put, List.setIfInBounds_toArray, List.set_cons_succ, List.set_cons_zero] <;> rfl), hiv, hv, hS⟩
    · replace h0 : bs 1 = false := h0
      have ho' := (Option.some.inj ho).symm
      subst ho'
      have k10 : ba 1 = true := hall ⟨10, .data⟩ (by simp) rfl
      have k5 : bc 1 = true := hall ⟨5, .data⟩ (by simp) rfl
      have hc := hM.pc 1 k5
      have hp := hM.pa 1 k10
      have hz := hM.pz 1 k10 h0
      have hS := hM.stored 1 k5 k10 h0
      obtain ⟨z0, z1⟩ := hz 0 (by omega)
      obtain ⟨y0, y1⟩ := hz 1 (by omega)
      clear hall ho
      subst ha0
      generalize hvc : vc 1 = cc at *
      generalize hvp : vp 1 = pp at *
      subst hc
      subst hp
      refine wpOp_step rfl (fun K hK => ?_)
      go_simp
      exact hK _ _ ⟨bi, bl, bc, ba, up1 bs 1 true, vi, vl, vc, vp, D, rfl, by rw [hvc, hvp]; (simp only [Act.put, List.setIfInBounds_toArray, List.set_cons_succ, List.set_cons_zero] <;> rfl), hiv, hv, hS⟩
    · replace h0 : bs 2 = false := h0
      have ho' := (Option.some.inj ho).symm
      subst ho'
      have k11 : ba 2 = true := hall ⟨11, .data⟩ (by simp) rfl
      have k8 : bc 2 = true := hall ⟨8, .data⟩ (by simp) rfl
      have hc := hM.pc 2 k8
      have hp := hM.pa 2 k11
      have hz := hM.pz 2 k11 h0
      have hS := hM.stored 2 k8 k11 h0
      obtain ⟨z0, z1⟩ := hz 0 (by omega)
      obtain ⟨y0, y1⟩ := hz 1 (by omega)
      clear hall ho
      subst ha0
      generalize hvc : vc 2 = cc at *
      generalize hvp : vp 2 = pp at *
      subst hc
      subst hp
      refine wpOp_step rfl (fun K hK => ?_)
      go_simp
      exact hK _ _ ⟨bi, bl, bc, ba, up1 bs 2 true, vi, vl, vc, vp, D, rfl, by rw [hvc, hvp]; (simp only [Act.put, List.setIfInBounds_toArray, List.set_cons_succ, List.set_cons_zero] <;> rfl), hiv, hv, hS⟩
  · rintro l a' w' ⟨bi, bl, bc, ba, bs, vi, vl, vc, vp, D, rfl, rfl, hiv, hv, hM⟩ hr
    have t0 : bi 0 = true := must_run (i := 0) hr rfl (by simp [Region.binds])
    have t1 : bl 0 = true := must_run (i := 1) hr rfl (by simp [Region.binds, t0])
    have t2 : bc 0 = true := must_run (i := 2) hr rfl (by simp [Region.binds, t0, t1])
    have t3 : bi 1 = true := must_run (i := 3) hr rfl (by simp [Region.binds, t0, t1, t2])
    have t4 : bl 1 = true := must_run (i := 4) hr rfl (by simp [Region.binds, t0, t1, t2, t3])
    have t5 : bc 1 = true := must_run (i := 5) hr rfl (by simp [Region.binds, t0, t1, t2, t3, t4])
    have t6 : bi 2 = true := must_run (i := 6) hr rfl (by simp [Region.binds, t0, t1, t2, t3, t4, t5])
    have t7 : bl 2 = true := must_run (i := 7) hr rfl (by simp [Region.binds, t0, t1, t2, t3, t4, t5, t6])
    have t8 : bc 2 = true := must_run (i := 8) hr rfl (by simp [Region.binds, t0, t1, t2, t3, t4, t5, t6, t7])
    have t9 : ba 0 = true := must_run (i := 9) hr rfl (by simp [Region.binds, t0, t1, t2, t3, t4, t5, t6, t7, t8])
    have t10 : ba 1 = true := must_run (i := 10) hr rfl (by simp [Region.binds, t0, t1, t2, t3, t4, t5, t6, t7, t8, t9])
    have t11 : ba 2 = true := must_run (i := 11) hr rfl (by simp [Region.binds, t0, t1, t2, t3, t4, t5, t6, t7, t8, t9, t10])
    have t12 : bs 0 = true := must_run (i := 12) hr rfl (by simp [Region.binds, t0, t1, t2, t3, t4, t5, t6, t7, t8, t9, t10, t11])
    have t13 : bs 1 = true := must_run (i := 13) hr rfl (by simp [Region.binds, t0, t1, t2, t3, t4, t5, t6, t7, t8, t9, t10, t11, t12])
    have t14 : bs 2 = true := must_run (i := 14) hr rfl (by simp [Region.binds, t0, t1, t2, t3, t4, t5, t6, t7, t8, t9, t10, t11, t12, t13])
    have hb9 := lid' hM.bel
    have D_0 := lid' (hM.dn 0 t2)
    have X_0 := lid' (hM.ps 0 t12)
    have hp0 := hM.pa 0 t9
    have D_1 := lid' (hM.dn 1 t5)
    have X_1 := lid' (hM.ps 1 t13)
    have hp1 := hM.pa 1 t10
    have hn01 := hM.ne 0 1 (by omega) t9 t10
    have D_2 := lid' (hM.dn 2 t8)
    have X_2 := lid' (hM.ps 2 t14)
    have hp2 := hM.pa 2 t11
    have hn02 := hM.ne 0 2 (by omega) t9 t11
    have hn12 := hM.ne 1 2 (by omega) t10 t11
    clear hM hr
    subst ha0
    generalize D.A 0 = A_0 at *
    generalize D.m 0 = m_0 at *
    generalize D.c 0 = c_0 at *
    generalize D.r 0 = r_0 at *
    generalize D.h 0 = h_0 at *
    generalize vp 0 = p_0 at *
    subst hp0
    generalize D.A 1 = A_1 at *
    generalize D.m 1 = m_1 at *
    generalize D.c 1 = c_1 at *
    generalize D.r 1 = r_1 at *
    generalize D.h 1 = h_1 at *
    generalize vp 1 = p_1 at *
    subst hp1
    generalize D.A 2 = A_2 at *
    generalize D.m 2 = m_2 at *
    generalize D.c 2 = c_2 at *
    generalize D.r 2 = r_2 at *
    generalize D.h 2 = h_2 at *
    generalize vp 2 = p_2 at *
    subst hp2
    rw [hff0] at D_0
    rw [hff1] at D_1
    rw [hff2] at D_2
    have HB3 := btr HB2 hb9.out HB2.out.size
    have HIN3 := rin HIN2 hb9.out
    clear hb9 hv hiv HM0 HM1 HM2 hff0 hff1 hff2 hav0 hav1 hav2 hiw0 hiw1 hiw2 HB2 HIN2 XR
    obtain ⟨ba, hba⟩ : ∃ b : Bool, fa (cf x) = b := ⟨_, rfl⟩
    have Hba := Lib.hid hba
    obtain ⟨bb, hbb⟩ : ∃ b : Bool, fb (cf x) = b := ⟨_, rfl⟩
    have Hbb := Lib.hid hbb
    obtain ⟨bd, hbd⟩ : ∃ b : Bool, fc (cf x) = b := ⟨_, rfl⟩
    have Hbd := Lib.hid hbd
    obtain ⟨gN, hgN⟩ : ∃ g : Cfg → Bool, g = fun x => !fa x := ⟨_, rfl⟩
    have LgN : Hid (Low 6 gN) := show Low 6 gN by rw [hgN]; exact HL0.out.not
    have EgN : Hid ((fun x => !fa x) = gN) := Lib.hid hgN.symm
    obtain ⟨pgN, egN⟩ : ∃ p : Bool, p = (!ba) := ⟨_, rfl⟩
    have HgN : Hid (gN (cf x) = pgN) := show _ = _ by rw [hgN, egN]; simp only [hba]
    clear hgN
    obtain ⟨gA, hgA⟩ : ∃ g : Cfg → Bool, g = fun x => fa x && fb x := ⟨_, rfl⟩
    have LgA : Hid (Low 6 gA) := show Low 6 gA by rw [hgA]; exact Low.bin and HL0.out HL1.out
    have EgA : Hid ((fun x => fa x && fb x) = gA) := Lib.hid hgA.symm
    obtain ⟨pgA, egA⟩ : ∃ p : Bool, p = (ba && bb) := ⟨_, rfl⟩
    have HgA : Hid (gA (cf x) = pgA) := show _ = _ by rw [hgA, egA]; simp only [hba, hbb]
    clear hgA
    obtain ⟨gO, hgO⟩ : ∃ g : Cfg → Bool, g = fun x => fa x || fb x := ⟨_, rfl⟩
    have LgO : Hid (Low 6 gO) := show Low 6 gO by rw [hgO]; exact Low.bin or HL0.out HL1.out
    have EgO : Hid ((fun x => fa x || fb x) = gO) := Lib.hid hgO.symm
    obtain ⟨pgO, egO⟩ : ∃ p : Bool, p = (ba || bb) := ⟨_, rfl⟩
    have HgO : Hid (gO (cf x) = pgO) := show _ = _ by rw [hgO, egO]; simp only [hba, hbb]
    clear hgO
    obtain ⟨gX, hgX⟩ : ∃ g : Cfg → Bool, g = fun x => fa x != fb x := ⟨_, rfl⟩
    have LgX : Hid (Low 6 gX) := show Low 6 gX by rw [hgX]; exact Low.bin (fun p q => p != q) HL0.out HL1.out
    have EgX : Hid ((fun x => fa x != fb x) = gX) := Lib.hid hgX.symm
    obtain ⟨pgX, egX⟩ : ∃ p : Bool, p = (ba != bb) := ⟨_, rfl⟩
    have HgX : Hid (gX (cf x) = pgX) := show _ = _ by rw [hgX, egX]; simp only [hba, hbb]
    clear hgX
    obtain ⟨gC, hgC⟩ : ∃ g : Cfg → Bool, g = fun x => if fa x then fb x else fc x := ⟨_, rfl⟩
    have LgC : Hid (Low 6 gC) := show Low 6 gC by rw [hgC]; exact Low.tri (fun p q r => if p then q else r) HL0.out HL1.out HL2.out
    have EgC : Hid ((fun x => if fa x then fb x else fc x) = gC) := Lib.hid hgC.symm
    obtain ⟨pgC, egC⟩ : ∃ p : Bool, p = (if ba then bb else bd) := ⟨_, rfl⟩
    have HgC : Hid (gC (cf x) = pgC) := show _ = _ by rw [hgC, egC]; simp only [hba, hbb, hbd]
    clear hgC
    clear hba hbb hbd hn01 hn02 hn12
    go_wp2_with fail
    have dr := (Below.refl w'.heap.size w').drew
    replace HIN3 := rin HIN3 dr
    replace D_0 := rdn D_0 dr
    replace D_1 := rdn D_1 dr
    replace D_2 := rdn D_2 dr
    replace X_0 := rb2 X_0 dr
    replace X_1 := rb2 X_1 dr
    replace X_2 := rb2 X_2 dr
    have Bl1 := btr HB3 dr HB3.out.size
    clear HB3
    clear dr
    obtain ⟨pX_0, qX_0, nX_0⟩ := xb2 X_0
    obtain ⟨pX_1, qX_1, nX_1⟩ := xb2 X_1
    obtain ⟨pX_2, qX_2, nX_2⟩ := xb2 X_2
    go_region_held3 (fun w' => w'.cell? ⟨h_0, 0, none⟩ = some (.slice A_0 m_0 c_0) ∧ w'.cell? ⟨h_0, 1, none⟩ = some (.int .i64 (r_0 : Int)) ∧ w'.cell? ⟨h_1, 0, none⟩ = some (.slice A_1 m_1 c_1) ∧ w'.cell? ⟨h_1, 1, none⟩ = some (.int .i64 (r_1 : Int)) ∧ w'.cell? ⟨h_2, 0, none⟩ = some (.slice A_2 m_2 c_2) ∧ w'.cell? ⟨h_2, 1, none⟩ = some (.int .i64 (r_2 : Int))) (first | (refine ⟨?_, ?_, ?_, ?_, ?_, ?_⟩ <;> (with_reducible assumption)) | go_keep) ((first
        | (have _kq := Bl3; go_at_call 46; (with_reducible refine (s_holds (w := w3_) (x := x) D_2 rfl rfl hx _ Hbd.out).mono ?_); rintro e w4_ ⟨rfl, b4⟩; replace HIN3 := rin HIN3 b4; replace D_0 := rdn D_0 b4; replace D_1 := rdn D_1 b4; replace D_2 := rdn D_2 b4; replace X_0 := rb2 X_0 b4; replace X_1 := rb2 X_1 b4; replace X_2 := rb2 X_2 b4; have Bl4 := btr Bl3 b4 Bl3.out.size; obtain ⟨pX_0, qX_0, nX_0⟩ := xb2 X_0; obtain ⟨pX_1, qX_1, nX_1⟩ := xb2 X_1; obtain ⟨pX_2, qX_2, nX_2⟩ := xb2 X_2; clear b4)
        | (have _kq := Bl2; go_at_call 46; (with_reducible refine (s_holds (w := w2_) (x := x) D_1 rfl rfl hx _ Hbb.out).mono ?_); rintro e w3_ ⟨rfl, b3⟩; replace HIN3 := rin HIN3 b3; replace D_0 := rdn D_0 b3; replace D_1 := rdn D_1 b3; replace D_2 := rdn D_2 b3; replace X_0 := rb2 X_0 b3; replace X_1 := rb2 X_1 b3; replace X_2 := rb2 X_2 b3; have Bl3 := btr Bl2 b3 Bl2.out.size; obtain ⟨pX_0, qX_0, nX_0⟩ := xb2 X_0; obtain ⟨pX_1, qX_1, nX_1⟩ := xb2 X_1; obtain ⟨pX_2, qX_2, nX_2⟩ := xb2 X_2; clear b3)
        | (go_at_call 46; (with_reducible refine (s_holds (w := w'.drew) (x := x) D_0 rfl rfl hx _ Hba.out).mono ?_); rintro e w2_ ⟨rfl, b2⟩; replace HIN3 := rin HIN3 b2; replace D_0 := rdn D_0 b2; replace D_1 := rdn D_1 b2; replace D_2 := rdn D_2 b2; replace X_0 := rb2 X_0 b2; replace X_1 := rb2 X_1 b2; replace X_2 := rb2 X_2 b2; have Bl2 := btr Bl1 b2 Bl1.out.size; obtain ⟨pX_0, qX_0, nX_0⟩ := xb2 X_0; obtain ⟨pX_1, qX_1, nX_1⟩ := xb2 X_1; obtain ⟨pX_2, qX_2, nX_2⟩ := xb2 X_2; clear b2)))
    all_goals (skip)
    all_goals
      clear pX_0 qX_0 nX_0 pX_1 qX_1 nX_1 pX_2 qX_2 nX_2
      obtain ⟨pX_0, qX_0, nX_0⟩ := xb2 X_0
      go_wp2_with fail
      clear pX_0 qX_0 nX_0
      with_reducible refine (six_not D_0 EgN).mono ?_
      rintro e w5_ ⟨⟨A5, m5, c5, r5, rfl, d5, _⟩, b5⟩
      replace HIN3 := rin HIN3 b5
      replace D_0 := rdn D_0 b5
      replace D_1 := rdn D_1 b5
      replace D_2 := rdn D_2 b5
      replace X_0 := rb2 X_0 b5
      replace X_1 := rb2 X_1 b5
      replace X_2 := rb2 X_2 b5
      have Bl5 := btr Bl4 b5 Bl4.out.size
      clear Bl4
      clear b5
      have Dn := lid' d5
      clear d5
      obtain ⟨pX_0, qX_0, nX_0⟩ := xb2 X_0
      obtain ⟨pX_1, qX_1, nX_1⟩ := xb2 X_1
      go_wp2_with fail
      clear pX_0 qX_0 nX_0 pX_1 qX_1 nX_1
      have ab := ab2 w5_ (.cells #[.slice A5 m5 c5, .int .i64 (r5 : Int)] 24)
      replace HIN3 := rin HIN3 ab
      replace D_0 := rdn D_0 ab
      replace D_1 := rdn D_1 ab
      replace D_2 := rdn D_2 ab
      replace X_0 := rb2 X_0 ab
      replace X_1 := rb2 X_1 ab
      replace X_2 := rb2 X_2 ab
      replace Dn := rdn Dn ab
      have Xn := nb2 w5_ (.slice A5 m5 c5) (.int .i64 (r5 : Int)) 24
      have Bl6 := btr Bl5 ab Bl5.out.size
      clear Bl5
      clear ab
      generalize w5_.alloc (.cells #[.slice A5 m5 c5, .int .i64 (r5 : Int)] 24) = x6 at *
      generalize w5_.heap.size = g6 at *
      with_reducible refine (six_and D_0 D_1 HL0 HL1 HIN3 EgA).mono ?_
      rintro e w7_ ⟨⟨A7, m7, c7, r7, rfl, d7, _⟩, b7⟩
      replace HIN3 := rin HIN3 b7
      replace D_0 := rdn D_0 b7
      replace D_1 := rdn D_1 b7
      replace D_2 := rdn D_2 b7
      replace X_0 := rb2 X_0 b7
      replace X_1 := rb2 X_1 b7
      replace X_2 := rb2 X_2 b7
      replace Dn := rdn Dn b7
      replace Xn := rb2 Xn b7
      have Bl7 := btr Bl6 b7 Bl6.out.size
      clear Bl6
      clear b7
      have Da := lid' d7
      clear d7
      obtain ⟨pX_0, qX_0, nX_0⟩ := xb2 X_0
      obtain ⟨pX_1, qX_1, nX_1⟩ := xb2 X_1
      go_wp2_with fail
      clear pX_0 qX_0 nX_0 pX_1 qX_1 nX_1
      have ab := ab2 w7_ (.cells #[.slice A7 m7 c7, .int .i64 (r7 : Int)] 24)
      replace HIN3 := rin HIN3 ab
      replace D_0 := rdn D_0 ab
      replace D_1 := rdn D_1 ab
      replace D_2 := rdn D_2 ab
      replace X_0 := rb2 X_0 ab
      replace X_1 := rb2 X_1 ab
      replace X_2 := rb2 X_2 ab
      replace Dn := rdn Dn ab
      replace Xn := rb2 Xn ab
      replace Da := rdn Da ab
      have Xa := nb2 w7_ (.slice A7 m7 c7) (.int .i64 (r7 : Int)) 24
      have Bl8 := btr Bl7 ab Bl7.out.size
      clear Bl7
      clear ab
      generalize w7_.alloc (.cells #[.slice A7 m7 c7, .int .i64 (r7 : Int)] 24) = x8 at *
      generalize w7_.heap.size = g8 at *
      with_reducible refine (six_or D_0 D_1 HL0 HL1 HIN3 EgO).mono ?_
      rintro e w9_ ⟨⟨A9, m9, c9, r9, rfl, d9, _⟩, b9⟩
      replace HIN3 := rin HIN3 b9
      replace D_0 := rdn D_0 b9
      replace D_1 := rdn D_1 b9
      replace D_2 := rdn D_2 b9
      replace X_0 := rb2 X_0 b9
      replace X_1 := rb2 X_1 b9
      replace X_2 := rb2 X_2 b9
      replace Dn := rdn Dn b9
      replace Xn := rb2 Xn b9
      replace Da := rdn Da b9
      replace Xa := rb2 Xa b9
      have Bl9 := btr Bl8 b9 Bl8.out.size
      clear Bl8
      clear b9
      have Do := lid' d9
      clear d9
      obtain ⟨pX_0, qX_0, nX_0⟩ := xb2 X_0
      obtain ⟨pX_1, qX_1, nX_1⟩ := xb2 X_1
      go_wp2_with fail
      clear pX_0 qX_0 nX_0 pX_1 qX_1 nX_1
      have ab := ab2 w9_ (.cells #[.slice A9 m9 c9, .int .i64 (r9 : Int)] 24)
      replace HIN3 := rin HIN3 ab
      replace D_0 := rdn D_0 ab
      replace D_1 := rdn D_1 ab
      replace D_2 := rdn D_2 ab
      replace X_0 := rb2 X_0 ab
      replace X_1 := rb2 X_1 ab
      replace X_2 := rb2 X_2 ab
      replace Dn := rdn Dn ab
      replace Xn := rb2 Xn ab
      replace Da := rdn Da ab
      replace Xa := rb2 Xa ab
      replace Do := rdn Do ab
      have Xo := nb2 w9_ (.slice A9 m9 c9) (.int .i64 (r9 : Int)) 24
      have Bl10 := btr Bl9 ab Bl9.out.size
      clear Bl9
      clear ab
      generalize w9_.alloc (.cells #[.slice A9 m9 c9, .int .i64 (r9 : Int)] 24) = x10 at *
      generalize w9_.heap.size = g10 at *
      with_reducible refine (six_xor D_0 D_1 HL0 HL1 HIN3 EgX).mono ?_
      rintro e w11_ ⟨⟨A11, m11, c11, r11, rfl, d11, _⟩, b11⟩
      replace HIN3 := rin HIN3 b11
      replace D_0 := rdn D_0 b11
      replace D_1 := rdn D_1 b11
      replace D_2 := rdn D_2 b11
      replace X_0 := rb2 X_0 b11
      replace X_1 := rb2 X_1 b11
      replace X_2 := rb2 X_2 b11
      replace Dn := rdn Dn b11
      replace Xn := rb2 Xn b11
      replace Da := rdn Da b11
      replace Xa := rb2 Xa b11
      replace Do := rdn Do b11
      replace Xo := rb2 Xo b11
      have Bl11 := btr Bl10 b11 Bl10.out.size
      clear Bl10
      clear b11
      have Dx := lid' d11
      clear d11
      obtain ⟨pX_0, qX_0, nX_0⟩ := xb2 X_0
      obtain ⟨pX_1, qX_1, nX_1⟩ := xb2 X_1
      obtain ⟨pX_2, qX_2, nX_2⟩ := xb2 X_2
      go_wp2_with fail
      clear pX_0 qX_0 nX_0 pX_1 qX_1 nX_1 pX_2 qX_2 nX_2
      have ab := ab2 w11_ (.cells #[.slice A11 m11 c11, .int .i64 (r11 : Int)] 24)
      replace HIN3 := rin HIN3 ab
      replace D_0 := rdn D_0 ab
      replace D_1 := rdn D_1 ab
      replace D_2 := rdn D_2 ab
      replace X_0 := rb2 X_0 ab
      replace X_1 := rb2 X_1 ab
      replace X_2 := rb2 X_2 ab
      replace Dn := rdn Dn ab
      replace Xn := rb2 Xn ab
      replace Da := rdn Da ab
      replace Xa := rb2 Xa ab
      replace Do := rdn Do ab
      replace Xo := rb2 Xo ab
      replace Dx := rdn Dx ab
      have Xx := nb2 w11_ (.slice A11 m11 c11) (.int .i64 (r11 : Int)) 24
      have Bl12 := btr Bl11 ab Bl11.out.size
      clear Bl11
      clear ab
      generalize w11_.alloc (.cells #[.slice A11 m11 c11, .int .i64 (r11 : Int)] 24) = x12 at *
      generalize w11_.heap.size = g12 at *
      with_reducible refine (six_choose D_0 D_1 D_2 HL1 HL2 LgC HIN3 EgC).mono ?_
      rintro e w13_ ⟨⟨A13, m13, c13, r13, rfl, d13, _⟩, b13⟩
      replace HIN3 := rin HIN3 b13
      replace D_0 := rdn D_0 b13
      replace D_1 := rdn D_1 b13
      replace D_2 := rdn D_2 b13
      replace X_0 := rb2 X_0 b13
      replace X_1 := rb2 X_1 b13
      replace X_2 := rb2 X_2 b13
      replace Dn := rdn Dn b13
      replace Xn := rb2 Xn b13
      replace Da := rdn Da b13
      replace Xa := rb2 Xa b13
      replace Do := rdn Do b13
      replace Xo := rb2 Xo b13
      replace Dx := rdn Dx b13
      replace Xx := rb2 Xx b13
      have Bl13 := btr Bl12 b13 Bl12.out.size
      clear Bl12
      clear b13
      have Dc := lid' d13
      clear d13
      clear X_0 D_0 X_1 D_1 X_2 D_2
      rcases ba with _ | _ <;> rcases bb with _ | _ <;> rcases bd with _ | _
      all_goals
        simp at egN egA egO egX egC
        subst egN egA egO egX egC
        obtain ⟨pXa, qXa, nXa⟩ := xb2 Xa
        go_wp2_with fail
        clear pXa qXa nXa
        have ab := ab2 w13_ (.cells #[.slice A13 m13 c13, .int .i64 (r13 : Int)] 24)
        replace HIN3 := rin HIN3 ab
        replace Dn := rdn Dn ab
        replace Xn := rb2 Xn ab
        replace Da := rdn Da ab
        replace Xa := rb2 Xa ab
        replace Do := rdn Do ab
        replace Xo := rb2 Xo ab
        replace Dx := rdn Dx ab
        replace Xx := rb2 Xx ab
        replace Dc := rdn Dc ab
        have Xc := nb2 w13_ (.slice A13 m13 c13) (.int .i64 (r13 : Int)) 24
        have Bl14 := btr Bl13 ab Bl13.out.size
        clear Bl13
        clear ab
        generalize w13_.alloc (.cells #[.slice A13 m13 c13, .int .i64 (r13 : Int)] 24) = x14 at *
        generalize w13_.heap.size = g14 at *
        with_reducible refine (s_holds (x := x) Da rfl rfl hx _ HgA.out).mono ?_
        rintro e w15_ ⟨rfl, b15⟩
        replace HIN3 := rin HIN3 b15
        replace Dn := rdn Dn b15
        replace Xn := rb2 Xn b15
        replace Da := rdn Da b15
        replace Xa := rb2 Xa b15
        replace Do := rdn Do b15
        replace Xo := rb2 Xo b15
        replace Dx := rdn Dx b15
        replace Xx := rb2 Xx b15
        replace Dc := rdn Dc b15
        replace Xc := rb2 Xc b15
        have Bl15 := btr Bl14 b15 Bl14.out.size
        clear Bl14
        clear b15
        obtain ⟨pXo, qXo, nXo⟩ := xb2 Xo
        go_wp2_with fail
        clear pXo qXo nXo
        with_reducible refine (s_holds (x := x) Do rfl rfl hx _ HgO.out).mono ?_
        rintro e w16_ ⟨rfl, b16⟩
        replace HIN3 := rin HIN3 b16
        replace Dn := rdn Dn b16
        replace Xn := rb2 Xn b16
        replace Da := rdn Da b16
        replace Xa := rb2 Xa b16
        replace Do := rdn Do b16
        replace Xo := rb2 Xo b16
        replace Dx := rdn Dx b16
        replace Xx := rb2 Xx b16
        replace Dc := rdn Dc b16
        replace Xc := rb2 Xc b16
        have Bl16 := btr Bl15 b16 Bl15.out.size
        clear Bl15
        clear b16
        obtain ⟨pXx, qXx, nXx⟩ := xb2 Xx
        go_wp2_with fail
        clear pXx qXx nXx
        with_reducible refine (s_holds (x := x) Dx rfl rfl hx _ HgX.out).mono ?_
        rintro e w17_ ⟨rfl, b17⟩
        replace HIN3 := rin HIN3 b17
        replace Dn := rdn Dn b17
        replace Xn := rb2 Xn b17
        replace Da := rdn Da b17
        replace Xa := rb2 Xa b17
        replace Do := rdn Do b17
        replace Xo := rb2 Xo b17
        replace Dx := rdn Dx b17
        replace Xx := rb2 Xx b17
        replace Dc := rdn Dc b17
        replace Xc := rb2 Xc b17
        have Bl17 := btr Bl16 b17 Bl16.out.size
        clear Bl16
        clear b17
        obtain ⟨pXn, qXn, nXn⟩ := xb2 Xn
        go_wp2_with fail
        clear pXn qXn nXn
        with_reducible refine (s_holds (x := x) Dn rfl rfl hx _ HgN.out).mono ?_
        rintro e w18_ ⟨rfl, b18⟩
        replace HIN3 := rin HIN3 b18
        replace Dn := rdn Dn b18
        replace Xn := rb2 Xn b18
        replace Da := rdn Da b18
        replace Xa := rb2 Xa b18
        replace Do := rdn Do b18
        replace Xo := rb2 Xo b18
        replace Dx := rdn Dx b18
        replace Xx := rb2 Xx b18
        replace Dc := rdn Dc b18
        replace Xc := rb2 Xc b18
        have Bl18 := btr Bl17 b18 Bl17.out.size
        clear Bl17
        clear b18
        obtain ⟨pXc, qXc, nXc⟩ := xb2 Xc
        go_wp2_with fail
        clear pXc qXc nXc
        with_reducible refine (s_holds (x := x) Dc rfl rfl hx _ HgC.out).mono ?_
        rintro e w19_ ⟨rfl, b19⟩
        replace HIN3 := rin HIN3 b19
        replace Dn := rdn Dn b19
        replace Xn := rb2 Xn b19
        replace Da := rdn Da b19
        replace Xa := rb2 Xa b19
        replace Do := rdn Do b19
        replace Xo := rb2 Xo b19
        replace Dx := rdn Dx b19
        replace Xx := rb2 Xx b19
        replace Dc := rdn Dc b19
        replace Xc := rb2 Xc b19
        have Bl19 := btr Bl18 b19 Bl18.out.size
        clear Bl18
        clear b19
        go_wp2
        go_ret
        exact ⟨rfl, Bl19.out⟩

end Go.Proofs.YtpeahjfkiehniaaDoor
