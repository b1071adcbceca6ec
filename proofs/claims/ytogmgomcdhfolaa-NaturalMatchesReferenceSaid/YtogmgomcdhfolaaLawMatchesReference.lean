/-
  NaturalMatchesReference: both sides agree for any two lists of at most 30 limbs.
-/
import Derived.Test.YtogmgomcdhfolaaRefSmall
namespace Go.Proofs.Ytogmgomcdhfolaa
open Go.RowKit Nt

set_option maxHeartbeats 4000000 in
set_option maxRecDepth 100000 in
theorem naturalMatchesReference_steps (c0 c1 m : Nat) (L0 L1 : Option Addr) (l0 l1 : List Nat) (h0 : l0.length ≤ 30) (h1 : l1.length ≤ 30) (hc0 : l0.length ≤ c0) (hc1 : l1.length ≤ c1) (HM : Hid (m < 18446744073709551616))
    (v1 v2 v3 q r y : Nat) (z1 z2 z3 z4 z5 : Int) (t t2 : Bool) (K_na : Hid (KBin 15 l0 l1 v1 z1)) (K_ra : Hid (KBin 16 l0 l1 v1 z1)) (K_ns : Hid (KBin 18 l0 l1 v2 z2)) (K_rs : Hid (KBin 19 l0 l1 v2 z2)) (K_nm : Hid (KBin 20 l0 l1 v3 z3)) (K_rm : Hid (KBin 21 l0 l1 v3 z3))
    (F_v1 : (dg v1).length ≤ 1024) (F_v2 : (dg v2).length ≤ 1024) (F_v3 : (dg v3).length ≤ 1024) (F_q : (dg q).length ≤ 1024) (F_r : (dg r).length ≤ 1024) (F_m : (dg m).length ≤ 1024)
    (K_nd : Hid (KDiv 22 l0 l1 q r z4)) (K_rd : Hid (KDiv 23 l0 l1 q r z4)) (K_nu : Hid (KU64 24 l0 y t2)) (K_ru : Hid (KU64 25 l0 y t2))
    (K_nv : Hid (KOne 26 l0 t)) (K_rv : Hid (KOne 27 l0 t)) (K_nc : Hid (KInt 28 l0 l1 z5)) (K_rc : Hid (KInt 29 l0 l1 z5))
    (w : World) (R_l0 : Hid (Rd w w.heap.size L0 l0)) (R_l1 : Hid (Rd w w.heap.size L1 l1)) :
    Calls Try.prog 3 #[.slice L0 l0.length c0, .slice L1 l1.length c1, .int .u64 (m : Int)] w (BackB w true) := by
  go_enter Try.func3, Try.ntmps3
  go_wp2_with fail
  refine (k_sanity).mono ?_
  rintro e w1 ⟨rfl, b1⟩
  replace R_l0 := rdb R_l0 b1
  replace R_l1 := rdb R_l1 b1
  have B1 := (Below.refl w.heap.size w).trans (b1.mono (Below.refl w.heap.size w).size)
  go_wp2_with fail
  refine (K_na.out _ _ _ _ _ R_l0 R_l1 hc0 hc1).mono ?_
  rintro e w2 ⟨A2, d2, rfl, hd2, R_x, b2⟩
  replace R_l0 := rdb R_l0 b2
  replace R_l1 := rdb R_l1 b2
  have B2 := (B1).trans (b2.mono (B1).size)
  go_wp2_with fail
  refine (K_ra.out _ _ _ _ _ R_l0 R_l1 hc0 hc1).mono ?_
  rintro e w3 ⟨A3, d3, rfl, hd3, R_y, b3⟩
  replace R_l0 := rdb R_l0 b3
  replace R_l1 := rdb R_l1 b3
  replace R_x := rdb R_x b3
  have B3 := (B2).trans (b3.mono (B2).size)
  go_wp2_with fail
  refine (k_same true R_x R_y F_v1 F_v1 (decide_eq_true rfl)).mono ?_
  rintro e w4 ⟨rfl, b4⟩
  replace R_l0 := rdb R_l0 b4
  replace R_l1 := rdb R_l1 b4
  replace R_x := rdb R_x b4
  replace R_y := rdb R_y b4
  have B4 := (B3).trans (b4.mono (B3).size)
  clear R_x
  clear R_y
  go_wp2_with fail
  refine (K_ns.out _ _ _ _ _ R_l0 R_l1 hc0 hc1).mono ?_
  rintro e w5 ⟨A5, d5, rfl, hd5, R_x, b5⟩
  replace R_l0 := rdb R_l0 b5
  replace R_l1 := rdb R_l1 b5
  have B5 := (B4).trans (b5.mono (B4).size)
  go_wp2_with fail
  refine (K_rs.out _ _ _ _ _ R_l0 R_l1 hc0 hc1).mono ?_
  rintro e w6 ⟨A6, d6, rfl, hd6, R_y, b6⟩
  replace R_l0 := rdb R_l0 b6
  replace R_l1 := rdb R_l1 b6
  replace R_x := rdb R_x b6
  have B6 := (B5).trans (b6.mono (B5).size)
  go_wp2_with fail
  refine (k_same true R_x R_y F_v2 F_v2 (decide_eq_true rfl)).mono ?_
  rintro e w7 ⟨rfl, b7⟩
  replace R_l0 := rdb R_l0 b7
  replace R_l1 := rdb R_l1 b7
  replace R_x := rdb R_x b7
  replace R_y := rdb R_y b7
  have B7 := (B6).trans (b7.mono (B6).size)
  clear R_x
  clear R_y
  go_wp2_with fail
  refine (K_nm.out _ _ _ _ _ R_l0 R_l1 hc0 hc1).mono ?_
  rintro e w8 ⟨A8, d8, rfl, hd8, R_x, b8⟩
  replace R_l0 := rdb R_l0 b8
  replace R_l1 := rdb R_l1 b8
  have B8 := (B7).trans (b8.mono (B7).size)
  go_wp2_with fail
  refine (K_rm.out _ _ _ _ _ R_l0 R_l1 hc0 hc1).mono ?_
  rintro e w9 ⟨A9, d9, rfl, hd9, R_y, b9⟩
  replace R_l0 := rdb R_l0 b9
  replace R_l1 := rdb R_l1 b9
  replace R_x := rdb R_x b9
  have B9 := (B8).trans (b9.mono (B8).size)
  go_wp2_with fail
  refine (k_same true R_x R_y F_v3 F_v3 (decide_eq_true rfl)).mono ?_
  rintro e w10 ⟨rfl, b10⟩
  replace R_l0 := rdb R_l0 b10
  replace R_l1 := rdb R_l1 b10
  replace R_x := rdb R_x b10
  replace R_y := rdb R_y b10
  have B10 := (B9).trans (b10.mono (B9).size)
  clear R_x
  clear R_y
  go_wp2_with fail
  refine (K_nd.out _ _ _ _ _ R_l0 R_l1 hc0 hc1).mono ?_
  rintro e w11 ⟨A11, d11, A11r, d11r, rfl, _, _, R_q, R_r, b11⟩
  replace R_l0 := rdb R_l0 b11
  replace R_l1 := rdb R_l1 b11
  have B11 := (B10).trans (b11.mono (B10).size)
  go_wp2_with fail
  refine (K_rd.out _ _ _ _ _ R_l0 R_l1 hc0 hc1).mono ?_
  rintro e w12 ⟨A12, d12, A12r, d12r, rfl, _, _, R_u, R_v, b12⟩
  replace R_l0 := rdb R_l0 b12
  replace R_l1 := rdb R_l1 b12
  replace R_q := rdb R_q b12
  replace R_r := rdb R_r b12
  have B12 := (B11).trans (b12.mono (B11).size)
  go_wp2_with fail
  refine (K_nu.out _ _ _ R_l0).mono ?_
  rintro e w13 ⟨rfl, b13⟩
  replace R_l0 := rdb R_l0 b13
  replace R_l1 := rdb R_l1 b13
  replace R_q := rdb R_q b13
  replace R_r := rdb R_r b13
  replace R_u := rdb R_u b13
  replace R_v := rdb R_v b13
  have B13 := (B12).trans (b13.mono (B12).size)
  go_wp2_with fail
  refine (K_ru.out _ _ _ R_l0).mono ?_
  rintro e w14 ⟨rfl, b14⟩
  replace R_l0 := rdb R_l0 b14
  replace R_l1 := rdb R_l1 b14
  replace R_q := rdb R_q b14
  replace R_r := rdb R_r b14
  replace R_u := rdb R_u b14
  replace R_v := rdb R_v b14
  have B14 := (B13).trans (b14.mono (B13).size)
  go_wp2_with fail
  refine (K_nv.out _ _ _ R_l0).mono ?_
  rintro e w15 ⟨rfl, b15⟩
  replace R_l0 := rdb R_l0 b15
  replace R_l1 := rdb R_l1 b15
  replace R_q := rdb R_q b15
  replace R_r := rdb R_r b15
  replace R_u := rdb R_u b15
  replace R_v := rdb R_v b15
  have B15 := (B14).trans (b15.mono (B14).size)
  go_wp2_with fail
  refine (K_rv.out _ _ _ R_l0).mono ?_
  rintro e w16 ⟨rfl, b16⟩
  replace R_l0 := rdb R_l0 b16
  replace R_l1 := rdb R_l1 b16
  replace R_q := rdb R_q b16
  replace R_r := rdb R_r b16
  replace R_u := rdb R_u b16
  replace R_v := rdb R_v b16
  have B16 := (B15).trans (b16.mono (B15).size)
  go_wp2_with fail
  refine (K_nc.out _ _ _ _ _ R_l0 R_l1).mono ?_
  rintro e w17 ⟨rfl, b17⟩
  replace R_l0 := rdb R_l0 b17
  replace R_l1 := rdb R_l1 b17
  replace R_q := rdb R_q b17
  replace R_r := rdb R_r b17
  replace R_u := rdb R_u b17
  replace R_v := rdb R_v b17
  have B17 := (B16).trans (b17.mono (B16).size)
  go_wp2_with fail
  refine (K_rc.out _ _ _ _ _ R_l0 R_l1).mono ?_
  rintro e w18 ⟨rfl, b18⟩
  replace R_l0 := rdb R_l0 b18
  replace R_l1 := rdb R_l1 b18
  replace R_q := rdb R_q b18
  replace R_r := rdb R_r b18
  replace R_u := rdb R_u b18
  replace R_v := rdb R_v b18
  have B18 := (B17).trans (b18.mono (B17).size)
  go_wp2_with fail
  refine (k_of64 HM).mono ?_
  rintro e w19 ⟨A19, d19, rfl, hd19, R_x, b19⟩
  replace R_l0 := rdb R_l0 b19
  replace R_l1 := rdb R_l1 b19
  replace R_q := rdb R_q b19
  replace R_r := rdb R_r b19
  replace R_u := rdb R_u b19
  replace R_v := rdb R_v b19
  have B19 := (B18).trans (b19.mono (B18).size)
  go_wp2_with fail
  refine (kr_of HM).mono ?_
  rintro e w20 ⟨A20, d20, rfl, hd20, R_y, b20⟩
  replace R_l0 := rdb R_l0 b20
  replace R_l1 := rdb R_l1 b20
  replace R_q := rdb R_q b20
  replace R_r := rdb R_r b20
  replace R_u := rdb R_u b20
  replace R_v := rdb R_v b20
  replace R_x := rdb R_x b20
  have B20 := (B19).trans (b20.mono (B19).size)
  go_wp2_with fail
  refine (k_same true R_x R_y F_m F_m (decide_eq_true rfl)).mono ?_
  rintro e w21 ⟨rfl, b21⟩
  replace R_l0 := rdb R_l0 b21
  replace R_l1 := rdb R_l1 b21
  replace R_q := rdb R_q b21
  replace R_r := rdb R_r b21
  replace R_u := rdb R_u b21
  replace R_v := rdb R_v b21
  replace R_x := rdb R_x b21
  replace R_y := rdb R_y b21
  have B21 := (B20).trans (b21.mono (B20).size)
  clear R_x
  clear R_y
  go_wp2_with fail
  refine (k_same true R_q R_u F_q F_q (decide_eq_true rfl)).mono ?_
  rintro e w22 ⟨rfl, b22⟩
  replace R_l0 := rdb R_l0 b22
  replace R_l1 := rdb R_l1 b22
  replace R_q := rdb R_q b22
  replace R_r := rdb R_r b22
  replace R_u := rdb R_u b22
  replace R_v := rdb R_v b22
  have B22 := (B21).trans (b22.mono (B21).size)
  go_wp2_with fail
  refine (k_same true R_r R_v F_r F_r (decide_eq_true rfl)).mono ?_
  rintro e w23 ⟨rfl, b23⟩
  replace R_l0 := rdb R_l0 b23
  replace R_l1 := rdb R_l1 b23
  replace R_q := rdb R_q b23
  replace R_r := rdb R_r b23
  replace R_u := rdb R_u b23
  replace R_v := rdb R_v b23
  have B23 := (B22).trans (b23.mono (B22).size)
  go_wp2_with fail
  go_ret
  exact ⟨ret_bool (by simp), B23⟩

set_option maxRecDepth 100000 in
theorem naturalMatchesReference_long (c0 c1 m : Nat) (L0 L1 : Option Addr) (l0 l1 : List Nat) (h0 : 30 < l0.length) (w : World) :
    Calls Try.prog 3 #[.slice L0 l0.length c0, .slice L1 l1.length c1, .int .u64 (m : Int)] w (BackB w true) := by
  go_enter Try.func3, Try.ntmps3
  go_wp2_with fail
  refine (k_sanity).mono ?_
  rintro e w1 ⟨rfl, b1⟩
  go_wp2_with fail
  go_ret
  exact ⟨rfl, b1⟩
set_option maxRecDepth 100000 in
theorem naturalMatchesReference_long2 (c0 c1 m : Nat) (L0 L1 : Option Addr) (l0 l1 : List Nat) (h0 : l0.length ≤ 30) (h1 : 30 < l1.length) (w : World) :
    Calls Try.prog 3 #[.slice L0 l0.length c0, .slice L1 l1.length c1, .int .u64 (m : Int)] w (BackB w true) := by
  go_enter Try.func3, Try.ntmps3
  go_wp2_with fail
  refine (k_sanity).mono ?_
  rintro e w1 ⟨rfl, b1⟩
  go_wp2_with fail
  go_ret
  exact ⟨rfl, b1⟩

theorem naturalMatchesReference_walk (n0 c0 : Nat) (L0 : Option Addr) (l0 : List Nat) (n1 c1 : Nat) (L1 : Option Addr) (l1 : List Nat) (m : Nat) (w : World) (R_l0 : Hid (Rd w w.heap.size L0 l0)) (W0 : Hid (Wf l0 ∧ l0.length = n0 ∧ n0 ≤ 9223372036854775807 ∧ n0 ≤ c0)) (R_l1 : Hid (Rd w w.heap.size L1 l1)) (W1 : Hid (Wf l1 ∧ l1.length = n1 ∧ n1 ≤ 9223372036854775807 ∧ n1 ≤ c1)) (HM : Hid (m < 18446744073709551616)) :
    Calls Try.prog 3 #[.slice L0 n0 c0, .slice L1 n1 c1, .int .u64 (m : Int)] w (BackB w true) := by
  obtain ⟨w0, rfl, hm0, hc0⟩ := W0.out
  obtain ⟨w1, rfl, hm1, hc1⟩ := W1.out
  by_cases h0 : l0.length ≤ 30
  · by_cases h1 : l1.length ≤ 30
    · have a0 : l0.length ≤ 1000000 := by omega
      have a1 : l1.length ≤ 1000000 := by omega
      exact naturalMatchesReference_steps c0 c1 m L0 L1 l0 l1 h0 h1 hc0 hc1 HM _ _ _ _ _ _ _ _ _ _ _ _ _ (kn_add w0 w1 a0 a1) (kr_add w0 w1 a0 a1) (kn_sub w0 w1 a0 a1) (kr_sub w0 w1 a0 a1) (kn_mul w0 w1 a0 a1) (kr_mul w0 w1 a0 a1)
        (addV_len _ _) (subV_len w0 w1) (mulV_len _ _) (divQ_len w0 w1) (divR_len w0 w1) (Nat.le_trans (fit_64 HM.out) (by omega)) (kn_div w0 w1 a0 a1) (kr_div w0 w1 (by omega) (by omega)) (kn_u64 w0 a0) (kr_u64 w0 a0)
        (kn_valid a0) (kr_valid a0) (kn_cmp w0 w1 a0 a1) (kr_cmp w0 w1 a0 a1) w R_l0 R_l1
    · exact naturalMatchesReference_long2 c0 c1 m L0 L1 l0 l1 h0 (by omega) w
  · exact naturalMatchesReference_long c0 c1 m L0 L1 l0 l1 (by omega) w

end Go.Proofs.Ytogmgomcdhfolaa
