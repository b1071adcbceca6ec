/-
  NaturalCanonical: what the functions give is valid, and a number of 64 bits is itself.
-/
import Derived.Test.YtagnfbgiofifgaaU64
namespace Go.Proofs.Ytagnfbgiofifgaa
open Go.RowKit Nt

set_option maxHeartbeats 4000000 in
set_option maxRecDepth 100000 in
theorem naturalCanonical_s (n0 c0 : Nat) (L0 : Option Addr) (l0 : List Nat) (n1 c1 : Nat) (L1 : Option Addr) (l1 : List Nat) (m : Nat) (a : Nat) (H_a : Hid (val (l0.take 40) = a)) (F_a : Fit 40 a) (b : Nat) (H_b : Hid (val (l1.take 40) = b)) (F_b : Fit 40 b) (q r d : Nat) (z y : Int) (HQ : Hid (a / b = q)) (HR : Hid ((if b = 0 then 0 else a % b) = r)) (HZ : Hid ((if b = 0 then 11 else 0) = z)) (HY : Hid (subE a b = y)) (HD : Hid (a - b = d)) (F_q : Fit 40 q) (F_r : Fit 40 r) (F_d : Fit 40 d) (F_m : Fit 2 m) (h2 : Hid ((dg a).length ≤ 2)) (hle : (((dg a).length : Int) ≤ 2)) (ha64 : Hid (a < 18446744073709551616)) (w : World) (R_l0 : Hid (Rd w w.heap.size L0 l0)) (W0 : Hid (Wf l0 ∧ l0.length = n0 ∧ n0 ≤ 9223372036854775807 ∧ n0 ≤ c0)) (R_l1 : Hid (Rd w w.heap.size L1 l1)) (W1 : Hid (Wf l1 ∧ l1.length = n1 ∧ n1 ≤ 9223372036854775807 ∧ n1 ≤ c1)) (HM : Hid (m < 18446744073709551616)) :
    Calls Try.prog 13 #[.slice L0 n0 c0, .slice L1 n1 c1, .int .u64 (m : Int)] w (BackB w true) := by
  go_enter Try.func13, Try.ntmps13
  go_wp2_with fail
  refine (k_sanity).mono ?_
  rintro e w1 ⟨rfl, b1⟩
  replace R_l0 := rdb R_l0 b1
  replace R_l1 := rdb R_l1 b1
  have B1 := (Below.refl w.heap.size w).trans (b1.mono (Below.refl w.heap.size w).size)
  go_wp2_with fail
  refine (k_made 40 R_l0 W0 H_a (by omega)).mono ?_
  rintro e w2 ⟨A2, d2, rfl, hd2, R_a, b2⟩
  replace R_l0 := rdb R_l0 b2
  replace R_l1 := rdb R_l1 b2
  have B2 := (B1).trans (b2.mono (B1).size)
  go_wp2_with fail
  refine (k_made 40 R_l1 W1 H_b (by omega)).mono ?_
  rintro e w3 ⟨A3, d3, rfl, hd3, R_b, b3⟩
  replace R_l0 := rdb R_l0 b3
  replace R_l1 := rdb R_l1 b3
  replace R_a := rdb R_a b3
  have B3 := (B2).trans (b3.mono (B2).size)
  clear R_l0
  clear R_l1
  go_wp2_with fail
  refine (k_divx q r z R_a R_b (Fit.out (k := 40) (F_a) (by omega)) (Fit.out (k := 40) (F_b) (by omega)) hd2 HQ.out HR.out HZ.out).mono ?_
  rintro e w4 ⟨A4, d4, A4r, d4r, rfl, hd4, hd4r, R_q, R_r, b4⟩
  replace R_a := rdb R_a b4
  replace R_b := rdb R_b b4
  have B4 := (B3).trans (b4.mono (B3).size)
  go_wp2_with fail
  refine (k_sub d y R_a R_b (Fit.out (k := 40) (F_a) (by omega)) (Fit.out (k := 40) (F_b) (by omega)) HY.out HD.out).mono ?_
  rintro e w5 ⟨A5, d5, rfl, hd5, R_d, b5⟩
  replace R_a := rdb R_a b5
  replace R_b := rdb R_b b5
  replace R_q := rdb R_q b5
  replace R_r := rdb R_r b5
  have B5 := (B4).trans (b5.mono (B4).size)
  go_wp2_with fail
  refine (k_of64 HM).mono ?_
  rintro e w6 ⟨A6, d6, rfl, hd6, R_m1, b6⟩
  replace R_a := rdb R_a b6
  replace R_b := rdb R_b b6
  replace R_q := rdb R_q b6
  replace R_r := rdb R_r b6
  replace R_d := rdb R_d b6
  have B6 := (B5).trans (b6.mono (B5).size)
  go_wp2_with fail
  refine (k_u64 R_m1 F_m).mono ?_
  rintro e w7 ⟨rfl, b7⟩
  replace R_a := rdb R_a b7
  replace R_b := rdb R_b b7
  replace R_q := rdb R_q b7
  replace R_r := rdb R_r b7
  replace R_d := rdb R_d b7
  replace R_m1 := rdb R_m1 b7
  have B7 := (B6).trans (b7.mono (B6).size)
  go_wp2_with fail
  refine (k_u64 R_a h2.out).mono ?_
  rintro e w8 ⟨rfl, b8⟩
  replace R_a := rdb R_a b8
  replace R_b := rdb R_b b8
  replace R_q := rdb R_q b8
  replace R_r := rdb R_r b8
  replace R_d := rdb R_d b8
  replace R_m1 := rdb R_m1 b8
  have B8 := (B7).trans (b8.mono (B7).size)
  go_wp2_with fail
  refine (k_add 40 R_a R_b (F_a) (F_b) (by omega)).mono ?_
  rintro e w9 ⟨A9, d9, rfl, hd9, R_x1, b9⟩
  replace R_a := rdb R_a b9
  replace R_b := rdb R_b b9
  replace R_q := rdb R_q b9
  replace R_r := rdb R_r b9
  replace R_d := rdb R_d b9
  replace R_m1 := rdb R_m1 b9
  have B9 := (B8).trans (b9.mono (B8).size)
  go_wp2_with fail
  refine (k_valid R_x1 (Fit.out (k := 41) (Fit.add (F_a) (F_b)) (by omega))).mono ?_
  rintro e w10 ⟨rfl, b10⟩
  replace R_a := rdb R_a b10
  replace R_b := rdb R_b b10
  replace R_q := rdb R_q b10
  replace R_r := rdb R_r b10
  replace R_d := rdb R_d b10
  replace R_m1 := rdb R_m1 b10
  replace R_x1 := rdb R_x1 b10
  have B10 := (B9).trans (b10.mono (B9).size)
  clear R_x1
  go_wp2_with fail
  refine (k_mul 40 40 R_a R_b (F_a) (F_b) (by omega)).mono ?_
  rintro e w11 ⟨A11, d11, rfl, hd11, R_x2, b11⟩
  replace R_a := rdb R_a b11
  replace R_b := rdb R_b b11
  replace R_q := rdb R_q b11
  replace R_r := rdb R_r b11
  replace R_d := rdb R_d b11
  replace R_m1 := rdb R_m1 b11
  have B11 := (B10).trans (b11.mono (B10).size)
  go_wp2_with fail
  refine (k_valid R_x2 (Fit.out (k := 80) (Fit.mul (F_a) (F_b)) (by omega))).mono ?_
  rintro e w12 ⟨rfl, b12⟩
  replace R_a := rdb R_a b12
  replace R_b := rdb R_b b12
  replace R_q := rdb R_q b12
  replace R_r := rdb R_r b12
  replace R_d := rdb R_d b12
  replace R_m1 := rdb R_m1 b12
  replace R_x2 := rdb R_x2 b12
  have B12 := (B11).trans (b12.mono (B11).size)
  clear R_x2
  go_wp2_with fail
  refine (k_valid R_q (Fit.out (k := 40) (F_q) (by omega))).mono ?_
  rintro e w13 ⟨rfl, b13⟩
  replace R_a := rdb R_a b13
  replace R_b := rdb R_b b13
  replace R_q := rdb R_q b13
  replace R_r := rdb R_r b13
  replace R_d := rdb R_d b13
  replace R_m1 := rdb R_m1 b13
  have B13 := (B12).trans (b13.mono (B12).size)
  go_wp2_with fail
  refine (k_valid R_r (Fit.out (k := 40) (F_r) (by omega))).mono ?_
  rintro e w14 ⟨rfl, b14⟩
  replace R_a := rdb R_a b14
  replace R_b := rdb R_b b14
  replace R_q := rdb R_q b14
  replace R_r := rdb R_r b14
  replace R_d := rdb R_d b14
  replace R_m1 := rdb R_m1 b14
  have B14 := (B13).trans (b14.mono (B13).size)
  go_wp2_with fail
  refine (k_valid R_d (Fit.out (k := 40) (F_d) (by omega))).mono ?_
  rintro e w15 ⟨rfl, b15⟩
  replace R_a := rdb R_a b15
  replace R_b := rdb R_b b15
  replace R_q := rdb R_q b15
  replace R_r := rdb R_r b15
  replace R_d := rdb R_d b15
  replace R_m1 := rdb R_m1 b15
  have B15 := (B14).trans (b15.mono (B14).size)
  go_wp2_with fail
  refine (k_of64 HM).mono ?_
  rintro e w16 ⟨A16, d16, rfl, hd16, R_m2, b16⟩
  replace R_a := rdb R_a b16
  replace R_b := rdb R_b b16
  replace R_q := rdb R_q b16
  replace R_r := rdb R_r b16
  replace R_d := rdb R_d b16
  replace R_m1 := rdb R_m1 b16
  have B16 := (B15).trans (b16.mono (B15).size)
  go_wp2_with fail
  refine (k_valid R_m2 (Fit.out (k := 2) (F_m) (by omega))).mono ?_
  rintro e w17 ⟨rfl, b17⟩
  replace R_a := rdb R_a b17
  replace R_b := rdb R_b b17
  replace R_q := rdb R_q b17
  replace R_r := rdb R_r b17
  replace R_d := rdb R_d b17
  replace R_m1 := rdb R_m1 b17
  replace R_m2 := rdb R_m2 b17
  have B17 := (B16).trans (b17.mono (B16).size)
  go_wp2_with fail
  refine (k_of64 (m := a) ha64).mono ?_
  rintro e w18 ⟨A18, d18, rfl, hd18, R_a2, b18⟩
  replace R_a := rdb R_a b18
  replace R_b := rdb R_b b18
  replace R_q := rdb R_q b18
  replace R_r := rdb R_r b18
  replace R_d := rdb R_d b18
  replace R_m1 := rdb R_m1 b18
  replace R_m2 := rdb R_m2 b18
  have B18 := (B17).trans (b18.mono (B17).size)
  go_wp2_with fail
  refine (k_same true R_a2 R_a (Fit.out (k := 40) (F_a) (by omega)) (Fit.out (k := 40) (F_a) (by omega)) (decide_eq_true (rfl))).mono ?_
  rintro e w19 ⟨rfl, b19⟩
  replace R_a := rdb R_a b19
  replace R_b := rdb R_b b19
  replace R_q := rdb R_q b19
  replace R_r := rdb R_r b19
  replace R_d := rdb R_d b19
  replace R_m1 := rdb R_m1 b19
  replace R_m2 := rdb R_m2 b19
  replace R_a2 := rdb R_a2 b19
  have B19 := (B18).trans (b19.mono (B18).size)
  go_wp2_with fail
  go_ret
  exact ⟨rfl, B19⟩

set_option maxHeartbeats 4000000 in
set_option maxRecDepth 100000 in
theorem naturalCanonical_b (n0 c0 : Nat) (L0 : Option Addr) (l0 : List Nat) (n1 c1 : Nat) (L1 : Option Addr) (l1 : List Nat) (m : Nat) (a : Nat) (H_a : Hid (val (l0.take 40) = a)) (F_a : Fit 40 a) (b : Nat) (H_b : Hid (val (l1.take 40) = b)) (F_b : Fit 40 b) (q r d : Nat) (z y : Int) (HQ : Hid (a / b = q)) (HR : Hid ((if b = 0 then 0 else a % b) = r)) (HZ : Hid ((if b = 0 then 11 else 0) = z)) (HY : Hid (subE a b = y)) (HD : Hid (a - b = d)) (F_q : Fit 40 q) (F_r : Fit 40 r) (F_d : Fit 40 d) (F_m : Fit 2 m) (h2 : Hid (2 < (dg a).length)) (hle : ¬ (((dg a).length : Int) ≤ 2)) (w : World) (R_l0 : Hid (Rd w w.heap.size L0 l0)) (W0 : Hid (Wf l0 ∧ l0.length = n0 ∧ n0 ≤ 9223372036854775807 ∧ n0 ≤ c0)) (R_l1 : Hid (Rd w w.heap.size L1 l1)) (W1 : Hid (Wf l1 ∧ l1.length = n1 ∧ n1 ≤ 9223372036854775807 ∧ n1 ≤ c1)) (HM : Hid (m < 18446744073709551616)) :
    Calls Try.prog 13 #[.slice L0 n0 c0, .slice L1 n1 c1, .int .u64 (m : Int)] w (BackB w true) := by
  go_enter Try.func13, Try.ntmps13
  go_wp2_with fail
  refine (k_sanity).mono ?_
  rintro e w1 ⟨rfl, b1⟩
  replace R_l0 := rdb R_l0 b1
  replace R_l1 := rdb R_l1 b1
  have B1 := (Below.refl w.heap.size w).trans (b1.mono (Below.refl w.heap.size w).size)
  go_wp2_with fail
  refine (k_made 40 R_l0 W0 H_a (by omega)).mono ?_
  rintro e w2 ⟨A2, d2, rfl, hd2, R_a, b2⟩
  replace R_l0 := rdb R_l0 b2
  replace R_l1 := rdb R_l1 b2
  have B2 := (B1).trans (b2.mono (B1).size)
  go_wp2_with fail
  refine (k_made 40 R_l1 W1 H_b (by omega)).mono ?_
  rintro e w3 ⟨A3, d3, rfl, hd3, R_b, b3⟩
  replace R_l0 := rdb R_l0 b3
  replace R_l1 := rdb R_l1 b3
  replace R_a := rdb R_a b3
  have B3 := (B2).trans (b3.mono (B2).size)
  clear R_l0
  clear R_l1
  go_wp2_with fail
  refine (k_divx q r z R_a R_b (Fit.out (k := 40) (F_a) (by omega)) (Fit.out (k := 40) (F_b) (by omega)) hd2 HQ.out HR.out HZ.out).mono ?_
  rintro e w4 ⟨A4, d4, A4r, d4r, rfl, hd4, hd4r, R_q, R_r, b4⟩
  replace R_a := rdb R_a b4
  replace R_b := rdb R_b b4
  have B4 := (B3).trans (b4.mono (B3).size)
  go_wp2_with fail
  refine (k_sub d y R_a R_b (Fit.out (k := 40) (F_a) (by omega)) (Fit.out (k := 40) (F_b) (by omega)) HY.out HD.out).mono ?_
  rintro e w5 ⟨A5, d5, rfl, hd5, R_d, b5⟩
  replace R_a := rdb R_a b5
  replace R_b := rdb R_b b5
  replace R_q := rdb R_q b5
  replace R_r := rdb R_r b5
  have B5 := (B4).trans (b5.mono (B4).size)
  go_wp2_with fail
  refine (k_of64 HM).mono ?_
  rintro e w6 ⟨A6, d6, rfl, hd6, R_m1, b6⟩
  replace R_a := rdb R_a b6
  replace R_b := rdb R_b b6
  replace R_q := rdb R_q b6
  replace R_r := rdb R_r b6
  replace R_d := rdb R_d b6
  have B6 := (B5).trans (b6.mono (B5).size)
  go_wp2_with fail
  refine (k_u64 R_m1 F_m).mono ?_
  rintro e w7 ⟨rfl, b7⟩
  replace R_a := rdb R_a b7
  replace R_b := rdb R_b b7
  replace R_q := rdb R_q b7
  replace R_r := rdb R_r b7
  replace R_d := rdb R_d b7
  replace R_m1 := rdb R_m1 b7
  have B7 := (B6).trans (b7.mono (B6).size)
  go_wp2_with fail
  refine (k_u64_big R_a h2.out (Fit.out (k := 40) (F_a) (by omega))).mono ?_
  rintro e w8 ⟨rfl, b8⟩
  replace R_a := rdb R_a b8
  replace R_b := rdb R_b b8
  replace R_q := rdb R_q b8
  replace R_r := rdb R_r b8
  replace R_d := rdb R_d b8
  replace R_m1 := rdb R_m1 b8
  have B8 := (B7).trans (b8.mono (B7).size)
  go_wp2_with fail
  refine (k_add 40 R_a R_b (F_a) (F_b) (by omega)).mono ?_
  rintro e w9 ⟨A9, d9, rfl, hd9, R_x1, b9⟩
  replace R_a := rdb R_a b9
  replace R_b := rdb R_b b9
  replace R_q := rdb R_q b9
  replace R_r := rdb R_r b9
  replace R_d := rdb R_d b9
  replace R_m1 := rdb R_m1 b9
  have B9 := (B8).trans (b9.mono (B8).size)
  go_wp2_with fail
  refine (k_valid R_x1 (Fit.out (k := 41) (Fit.add (F_a) (F_b)) (by omega))).mono ?_
  rintro e w10 ⟨rfl, b10⟩
  replace R_a := rdb R_a b10
  replace R_b := rdb R_b b10
  replace R_q := rdb R_q b10
  replace R_r := rdb R_r b10
  replace R_d := rdb R_d b10
  replace R_m1 := rdb R_m1 b10
  replace R_x1 := rdb R_x1 b10
  have B10 := (B9).trans (b10.mono (B9).size)
  clear R_x1
  go_wp2_with fail
  refine (k_mul 40 40 R_a R_b (F_a) (F_b) (by omega)).mono ?_
  rintro e w11 ⟨A11, d11, rfl, hd11, R_x2, b11⟩
  replace R_a := rdb R_a b11
  replace R_b := rdb R_b b11
  replace R_q := rdb R_q b11
  replace R_r := rdb R_r b11
  replace R_d := rdb R_d b11
  replace R_m1 := rdb R_m1 b11
  have B11 := (B10).trans (b11.mono (B10).size)
  go_wp2_with fail
  refine (k_valid R_x2 (Fit.out (k := 80) (Fit.mul (F_a) (F_b)) (by omega))).mono ?_
  rintro e w12 ⟨rfl, b12⟩
  replace R_a := rdb R_a b12
  replace R_b := rdb R_b b12
  replace R_q := rdb R_q b12
  replace R_r := rdb R_r b12
  replace R_d := rdb R_d b12
  replace R_m1 := rdb R_m1 b12
  replace R_x2 := rdb R_x2 b12
  have B12 := (B11).trans (b12.mono (B11).size)
  clear R_x2
  go_wp2_with fail
  refine (k_valid R_q (Fit.out (k := 40) (F_q) (by omega))).mono ?_
  rintro e w13 ⟨rfl, b13⟩
  replace R_a := rdb R_a b13
  replace R_b := rdb R_b b13
  replace R_q := rdb R_q b13
  replace R_r := rdb R_r b13
  replace R_d := rdb R_d b13
  replace R_m1 := rdb R_m1 b13
  have B13 := (B12).trans (b13.mono (B12).size)
  go_wp2_with fail
  refine (k_valid R_r (Fit.out (k := 40) (F_r) (by omega))).mono ?_
  rintro e w14 ⟨rfl, b14⟩
  replace R_a := rdb R_a b14
  replace R_b := rdb R_b b14
  replace R_q := rdb R_q b14
  replace R_r := rdb R_r b14
  replace R_d := rdb R_d b14
  replace R_m1 := rdb R_m1 b14
  have B14 := (B13).trans (b14.mono (B13).size)
  go_wp2_with fail
  refine (k_valid R_d (Fit.out (k := 40) (F_d) (by omega))).mono ?_
  rintro e w15 ⟨rfl, b15⟩
  replace R_a := rdb R_a b15
  replace R_b := rdb R_b b15
  replace R_q := rdb R_q b15
  replace R_r := rdb R_r b15
  replace R_d := rdb R_d b15
  replace R_m1 := rdb R_m1 b15
  have B15 := (B14).trans (b15.mono (B14).size)
  go_wp2_with fail
  refine (k_of64 HM).mono ?_
  rintro e w16 ⟨A16, d16, rfl, hd16, R_m2, b16⟩
  replace R_a := rdb R_a b16
  replace R_b := rdb R_b b16
  replace R_q := rdb R_q b16
  replace R_r := rdb R_r b16
  replace R_d := rdb R_d b16
  replace R_m1 := rdb R_m1 b16
  have B16 := (B15).trans (b16.mono (B15).size)
  go_wp2_with fail
  refine (k_valid R_m2 (Fit.out (k := 2) (F_m) (by omega))).mono ?_
  rintro e w17 ⟨rfl, b17⟩
  replace R_a := rdb R_a b17
  replace R_b := rdb R_b b17
  replace R_q := rdb R_q b17
  replace R_r := rdb R_r b17
  replace R_d := rdb R_d b17
  replace R_m1 := rdb R_m1 b17
  replace R_m2 := rdb R_m2 b17
  have B17 := (B16).trans (b17.mono (B16).size)
  go_wp2_with fail
  go_ret
  refine ⟨?_, B17⟩
  show Ending.returned (.bool (!decide (((dg a).length : Int) ≤ 2))) = _
  rw [decide_eq_false (by have := h2.out; omega)]
  rfl

theorem naturalCanonical_walk (n0 c0 : Nat) (L0 : Option Addr) (l0 : List Nat) (n1 c1 : Nat) (L1 : Option Addr) (l1 : List Nat) (m : Nat) (w : World) (R_l0 : Hid (Rd w w.heap.size L0 l0)) (W0 : Hid (Wf l0 ∧ l0.length = n0 ∧ n0 ≤ 9223372036854775807 ∧ n0 ≤ c0)) (R_l1 : Hid (Rd w w.heap.size L1 l1)) (W1 : Hid (Wf l1 ∧ l1.length = n1 ∧ n1 ≤ 9223372036854775807 ∧ n1 ≤ c1)) (HM : Hid (m < 18446744073709551616)) :
    Calls Try.prog 13 #[.slice L0 n0 c0, .slice L1 n1 c1, .int .u64 (m : Int)] w (BackB w true) := by
  obtain ⟨a, H_a⟩ : ∃ v, Hid (val (l0.take 40) = v) := ⟨_, rfl⟩
  have F_a : Fit 40 a := by have h := Fit.list W0.out.1 40; rwa [H_a.out] at h
  obtain ⟨b, H_b⟩ : ∃ v, Hid (val (l1.take 40) = v) := ⟨_, rfl⟩
  have F_b : Fit 40 b := by have h := Fit.list W1.out.1 40; rwa [H_b.out] at h
  have F_r : Fit 40 (if b = 0 then 0 else a % b) := by
    split
    · exact Fit.zero _
    · exact F_a.le (Nat.mod_le _ _)
  rcases Nat.lt_or_ge 2 (dg a).length with h | h
  · exact naturalCanonical_b n0 c0 L0 l0 n1 c1 L1 l1 m a H_a F_a b H_b F_b _ _ _ _ _ rfl rfl rfl rfl rfl (F_a.le (Nat.div_le_self _ _)) F_r (F_a.sub b) (fit_64 HM.out) h (by omega) w R_l0 W0 R_l1 W1 HM
  · exact naturalCanonical_s n0 c0 L0 l0 n1 c1 L1 l1 m a H_a F_a b H_b F_b _ _ _ _ _ rfl rfl rfl rfl rfl (F_a.le (Nat.div_le_self _ _)) F_r (F_a.sub b) (fit_64 HM.out) h (by omega) (Fit.lt (k := 2) h) w R_l0 W0 R_l1 W1 HM

end Go.Proofs.Ytagnfbgiofifgaa
