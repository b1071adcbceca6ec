/-
  NaturalLimits: near the greatest number of limbs both sides agree.
-/
import Derived.Test.YtogmgomcdhfolaaRefBad
namespace Go.Proofs.Ytogmgomcdhfolaa
open Go.RowKit Nt

set_option maxHeartbeats 4000000 in
set_option maxRecDepth 100000 in
theorem naturalLimits_steps (x kk : Nat) (kn kr : Nat) (hkn : kn ≤ 255) (_hkr : kr ≤ 9) (hki : (kn : Int) % 10 = (kr : Int)) (hkj : 1020 + (kr : Int) = (kk : Int)) (_hkk : kk ≤ 1029) (hx : x < 4294967296) (a b : Nat) (HN : Hid (val (List.replicate kk x) = a)) (n0 c0 : Nat) (L0 : Option Addr) (l0 : List Nat) (H_b : Hid (val (l0.take 4) = b))
    (v1 v2 v3 : Nat) (z1 z2 z3 z4 : Int) (t : Bool) (K_na : Hid (KBin 15 (dg a) (dg b) v1 z1)) (K_ra : Hid (KBin 16 (dg a) (dg b) v1 z1)) (K_nm : Hid (KBin 20 (dg b) (dg a) v2 z2)) (K_rm : Hid (KBin 21 (dg b) (dg a) v2 z2)) (K_ns : Hid (KBin 18 (dg a) (dg b) v3 z3)) (K_rs : Hid (KBin 19 (dg a) (dg b) v3 z3)) (F_v1 : (dg v1).length ≤ 1024) (F_v2 : (dg v2).length ≤ 1024) (F_v3 : (dg v3).length ≤ 1024)
    (K_nv : Hid (KOne 26 (dg a) t)) (K_rv : Hid (KOne 27 (dg a) t)) (K_nc : Hid (KInt 28 (dg a) (dg b) z4)) (K_rc : Hid (KInt 29 (dg a) (dg b) z4))
    (w : World) (R_l0 : Hid (Rd w w.heap.size L0 l0)) (W0 : Hid (Wf l0 ∧ l0.length = n0 ∧ n0 ≤ 9223372036854775807 ∧ n0 ≤ c0)) :
    Calls Try.prog 5 #[.int .u32 (x : Int), .int .u8 (kn : Int), .slice L0 n0 c0] w (BackB w true) := by
  have RL : Hid (∀ w : World, Calls Try.prog 36 #[.int .u32 (x : Int), .int .i64 (kk : Int)] w (Back w a)) := by
    intro w
    have := (rlong_any x kk w hx (by omega)).mono fun _ _ h => h.back
    rwa [HN.out] at this
  go_enter Try.func5, Try.ntmps5
  go_wp2_with fail
  refine (k_sanity).mono ?_
  rintro e w1 ⟨rfl, b1⟩
  replace R_l0 := rdb R_l0 b1
  have B1 := (Below.refl w.heap.size w).trans (b1.mono (Below.refl w.heap.size w).size)
  go_wp2_with fail
  refine (RL.out _).mono ?_
  rintro e w2 ⟨A2, d2, rfl, hd2, R_a, b2⟩
  replace R_l0 := rdb R_l0 b2
  have B2 := (B1).trans (b2.mono (B1).size)
  go_wp2_with fail
  refine (k_made 4 R_l0 W0 H_b (by omega)).mono ?_
  rintro e w3 ⟨A3, d3, rfl, hd3, R_b, b3⟩
  replace R_l0 := rdb R_l0 b3
  replace R_a := rdb R_a b3
  have B3 := (B2).trans (b3.mono (B2).size)
  clear R_l0
  go_wp2_with fail
  refine (K_na.out _ _ _ _ _ R_a R_b hd2 hd3).mono ?_
  rintro e w4 ⟨A4, d4, rfl, hd4, R_s, b4⟩
  replace R_a := rdb R_a b4
  replace R_b := rdb R_b b4
  have B4 := (B3).trans (b4.mono (B3).size)
  go_wp2_with fail
  refine (K_ra.out _ _ _ _ _ R_a R_b hd2 hd3).mono ?_
  rintro e w5 ⟨A5, d5, rfl, hd5, R_t, b5⟩
  replace R_a := rdb R_a b5
  replace R_b := rdb R_b b5
  replace R_s := rdb R_s b5
  have B5 := (B4).trans (b5.mono (B4).size)
  go_wp2_with fail
  refine (K_nm.out _ _ _ _ _ R_b R_a hd3 hd2).mono ?_
  rintro e w6 ⟨A6, d6, rfl, hd6, R_p, b6⟩
  replace R_a := rdb R_a b6
  replace R_b := rdb R_b b6
  replace R_s := rdb R_s b6
  replace R_t := rdb R_t b6
  have B6 := (B5).trans (b6.mono (B5).size)
  go_wp2_with fail
  refine (K_rm.out _ _ _ _ _ R_b R_a hd3 hd2).mono ?_
  rintro e w7 ⟨A7, d7, rfl, hd7, R_q, b7⟩
  replace R_a := rdb R_a b7
  replace R_b := rdb R_b b7
  replace R_s := rdb R_s b7
  replace R_t := rdb R_t b7
  replace R_p := rdb R_p b7
  have B7 := (B6).trans (b7.mono (B6).size)
  go_wp2_with fail
  refine (K_ns.out _ _ _ _ _ R_a R_b hd2 hd3).mono ?_
  rintro e w8 ⟨A8, d8, rfl, hd8, R_d, b8⟩
  replace R_a := rdb R_a b8
  replace R_b := rdb R_b b8
  replace R_s := rdb R_s b8
  replace R_t := rdb R_t b8
  replace R_p := rdb R_p b8
  replace R_q := rdb R_q b8
  have B8 := (B7).trans (b8.mono (B7).size)
  go_wp2_with fail
  refine (K_rs.out _ _ _ _ _ R_a R_b hd2 hd3).mono ?_
  rintro e w9 ⟨A9, d9, rfl, hd9, R_c, b9⟩
  replace R_a := rdb R_a b9
  replace R_b := rdb R_b b9
  replace R_s := rdb R_s b9
  replace R_t := rdb R_t b9
  replace R_p := rdb R_p b9
  replace R_q := rdb R_q b9
  replace R_d := rdb R_d b9
  have B9 := (B8).trans (b9.mono (B8).size)
  go_wp2_with fail
  refine (k_same true R_s R_t F_v1 F_v1 (decide_eq_true rfl)).mono ?_
  rintro e w10 ⟨rfl, b10⟩
  replace R_a := rdb R_a b10
  replace R_b := rdb R_b b10
  replace R_s := rdb R_s b10
  replace R_t := rdb R_t b10
  replace R_p := rdb R_p b10
  replace R_q := rdb R_q b10
  replace R_d := rdb R_d b10
  replace R_c := rdb R_c b10
  have B10 := (B9).trans (b10.mono (B9).size)
  go_wp2_with fail
  refine (k_same true R_p R_q F_v2 F_v2 (decide_eq_true rfl)).mono ?_
  rintro e w11 ⟨rfl, b11⟩
  replace R_a := rdb R_a b11
  replace R_b := rdb R_b b11
  replace R_s := rdb R_s b11
  replace R_t := rdb R_t b11
  replace R_p := rdb R_p b11
  replace R_q := rdb R_q b11
  replace R_d := rdb R_d b11
  replace R_c := rdb R_c b11
  have B11 := (B10).trans (b11.mono (B10).size)
  go_wp2_with fail
  refine (k_same true R_d R_c F_v3 F_v3 (decide_eq_true rfl)).mono ?_
  rintro e w12 ⟨rfl, b12⟩
  replace R_a := rdb R_a b12
  replace R_b := rdb R_b b12
  replace R_s := rdb R_s b12
  replace R_t := rdb R_t b12
  replace R_p := rdb R_p b12
  replace R_q := rdb R_q b12
  replace R_d := rdb R_d b12
  replace R_c := rdb R_c b12
  have B12 := (B11).trans (b12.mono (B11).size)
  go_wp2_with fail
  refine (K_nv.out _ _ _ R_a).mono ?_
  rintro e w13 ⟨rfl, b13⟩
  replace R_a := rdb R_a b13
  replace R_b := rdb R_b b13
  replace R_s := rdb R_s b13
  replace R_t := rdb R_t b13
  replace R_p := rdb R_p b13
  replace R_q := rdb R_q b13
  replace R_d := rdb R_d b13
  replace R_c := rdb R_c b13
  have B13 := (B12).trans (b13.mono (B12).size)
  go_wp2_with fail
  refine (K_rv.out _ _ _ R_a).mono ?_
  rintro e w14 ⟨rfl, b14⟩
  replace R_a := rdb R_a b14
  replace R_b := rdb R_b b14
  replace R_s := rdb R_s b14
  replace R_t := rdb R_t b14
  replace R_p := rdb R_p b14
  replace R_q := rdb R_q b14
  replace R_d := rdb R_d b14
  replace R_c := rdb R_c b14
  have B14 := (B13).trans (b14.mono (B13).size)
  go_wp2_with fail
  refine (K_nc.out _ _ _ _ _ R_a R_b).mono ?_
  rintro e w15 ⟨rfl, b15⟩
  replace R_a := rdb R_a b15
  replace R_b := rdb R_b b15
  replace R_s := rdb R_s b15
  replace R_t := rdb R_t b15
  replace R_p := rdb R_p b15
  replace R_q := rdb R_q b15
  replace R_d := rdb R_d b15
  replace R_c := rdb R_c b15
  have B15 := (B14).trans (b15.mono (B14).size)
  go_wp2_with fail
  refine (K_rc.out _ _ _ _ _ R_a R_b).mono ?_
  rintro e w16 ⟨rfl, b16⟩
  replace R_a := rdb R_a b16
  replace R_b := rdb R_b b16
  replace R_s := rdb R_s b16
  replace R_t := rdb R_t b16
  replace R_p := rdb R_p b16
  replace R_q := rdb R_q b16
  replace R_d := rdb R_d b16
  replace R_c := rdb R_c b16
  have B16 := (B15).trans (b16.mono (B15).size)
  go_wp2_with fail
  go_ret
  exact ⟨ret_bool (by simp), B16⟩

theorem naturalLimits_walk (x kk : Nat) (kn kr : Nat) (hkn : kn ≤ 255) (hkr : kr ≤ 9) (hki : (kn : Int) % 10 = (kr : Int)) (hkj : 1020 + (kr : Int) = (kk : Int)) (hkk : kk ≤ 1029) (hx : x < 4294967296) (n0 c0 : Nat) (L0 : Option Addr) (l0 : List Nat)
    (w : World) (R_l0 : Hid (Rd w w.heap.size L0 l0)) (W0 : Hid (Wf l0 ∧ l0.length = n0 ∧ n0 ≤ 9223372036854775807 ∧ n0 ≤ c0)) :
    Calls Try.prog 5 #[.int .u32 (x : Int), .int .u8 (kn : Int), .slice L0 n0 c0] w (BackB w true) := by
  obtain ⟨a, ha⟩ : ∃ a, val (List.replicate kk x) = a := ⟨_, rfl⟩
  obtain ⟨b, hb⟩ : ∃ b, val (l0.take 4) = b := ⟨_, rfl⟩
  have fa : (dg a).length ≤ 1000000 := by
    have hw : Wf (List.replicate kk x) := fun y hy => by have := List.eq_of_mem_replicate hy; omega
    have h2 := congrArg List.length (dg_val_take hw)
    rw [List.length_take, List.length_replicate, ha] at h2; omega
  have fb : (dg b).length ≤ 1000000 := by
    have := Fit.list W0.out.1 4
    rw [hb] at this
    exact Nat.le_trans this (by omega)
  have wa := wf_dg a
  have wb := wf_dg b
  exact naturalLimits_steps x kk kn kr hkn hkr hki hkj hkk hx a b ha n0 c0 L0 l0 hb _ _ _ _ _ _ _ _ (kn_add wa wb fa fb) (kr_add wa wb fa fb) (kn_mul wb wa fb fa) (kr_mul wb wa fb fa) (kn_sub wa wb fa fb) (kr_sub wa wb fa fb)
    (addV_len _ _) (mulV_len _ _) (subV_len wa wb) (kn_valid fa) (kr_valid fa) (kn_cmp wa wb fa fb) (kr_cmp wa wb fa fb) w R_l0 W0

end Go.Proofs.Ytogmgomcdhfolaa
