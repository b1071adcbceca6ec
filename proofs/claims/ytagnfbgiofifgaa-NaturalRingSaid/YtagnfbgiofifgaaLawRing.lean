/-
  NaturalRing: sums and products are those of the natural numbers.
-/
import Derived.Test.YtagnfbgiofifgaaLawKit
namespace Go.Proofs.Ytagnfbgiofifgaa
open Go.RowKit Nt

set_option maxHeartbeats 4000000 in
set_option maxRecDepth 100000 in
theorem naturalRing_walk (n0 c0 : Nat) (L0 : Option Addr) (l0 : List Nat) (n1 c1 : Nat) (L1 : Option Addr) (l1 : List Nat) (n2 c2 : Nat) (L2 : Option Addr) (l2 : List Nat) (w : World) (R_l0 : Hid (Rd w w.heap.size L0 l0)) (W0 : Hid (Wf l0 ∧ l0.length = n0 ∧ n0 ≤ 9223372036854775807 ∧ n0 ≤ c0)) (R_l1 : Hid (Rd w w.heap.size L1 l1)) (W1 : Hid (Wf l1 ∧ l1.length = n1 ∧ n1 ≤ 9223372036854775807 ∧ n1 ≤ c1)) (R_l2 : Hid (Rd w w.heap.size L2 l2)) (W2 : Hid (Wf l2 ∧ l2.length = n2 ∧ n2 ≤ 9223372036854775807 ∧ n2 ≤ c2)) :
    Calls Try.prog 6 #[.slice L0 n0 c0, .slice L1 n1 c1, .slice L2 n2 c2] w (BackB w true) := by
  obtain ⟨a, H_a⟩ : ∃ v, Hid (val (l0.take 40) = v) := ⟨_, rfl⟩
  have F_a : Fit 40 a := by have h := Fit.list W0.out.1 40; rwa [H_a.out] at h
  obtain ⟨b, H_b⟩ : ∃ v, Hid (val (l1.take 40) = v) := ⟨_, rfl⟩
  have F_b : Fit 40 b := by have h := Fit.list W1.out.1 40; rwa [H_b.out] at h
  obtain ⟨c, H_c⟩ : ∃ v, Hid (val (l2.take 40) = v) := ⟨_, rfl⟩
  have F_c : Fit 40 c := by have h := Fit.list W2.out.1 40; rwa [H_c.out] at h
  go_enter Try.func6, Try.ntmps6
  go_wp2_with fail
  refine (k_sanity).mono ?_
  rintro e w1 ⟨rfl, b1⟩
  replace R_l0 := rdb R_l0 b1
  replace R_l1 := rdb R_l1 b1
  replace R_l2 := rdb R_l2 b1
  have B1 := (Below.refl w.heap.size w).trans (b1.mono (Below.refl w.heap.size w).size)
  go_wp2_with fail
  refine (k_made 40 R_l0 W0 H_a (by omega)).mono ?_
  rintro e w2 ⟨A2, d2, rfl, hd2, R_a, b2⟩
  replace R_l0 := rdb R_l0 b2
  replace R_l1 := rdb R_l1 b2
  replace R_l2 := rdb R_l2 b2
  have B2 := (B1).trans (b2.mono (B1).size)
  go_wp2_with fail
  refine (k_made 40 R_l1 W1 H_b (by omega)).mono ?_
  rintro e w3 ⟨A3, d3, rfl, hd3, R_b, b3⟩
  replace R_l0 := rdb R_l0 b3
  replace R_l1 := rdb R_l1 b3
  replace R_l2 := rdb R_l2 b3
  replace R_a := rdb R_a b3
  have B3 := (B2).trans (b3.mono (B2).size)
  go_wp2_with fail
  refine (k_made 40 R_l2 W2 H_c (by omega)).mono ?_
  rintro e w4 ⟨A4, d4, rfl, hd4, R_c, b4⟩
  replace R_l0 := rdb R_l0 b4
  replace R_l1 := rdb R_l1 b4
  replace R_l2 := rdb R_l2 b4
  replace R_a := rdb R_a b4
  replace R_b := rdb R_b b4
  have B4 := (B3).trans (b4.mono (B3).size)
  clear R_l0
  clear R_l1
  clear R_l2
  go_wp2_with fail
  refine (k_add 40 R_a R_b (F_a) (F_b) (by omega)).mono ?_
  rintro e w5 ⟨A5, d5, rfl, hd5, R_x1, b5⟩
  replace R_a := rdb R_a b5
  replace R_b := rdb R_b b5
  replace R_c := rdb R_c b5
  have B5 := (B4).trans (b5.mono (B4).size)
  go_wp2_with fail
  refine (k_add 41 R_x1 R_c (Fit.add (F_a) (F_b)) (Fit.mono (F_c) (show 40 ≤ 41 by omega)) (by omega)).mono ?_
  rintro e w6 ⟨A6, d6, rfl, hd6, R_x2, b6⟩
  replace R_a := rdb R_a b6
  replace R_b := rdb R_b b6
  replace R_c := rdb R_c b6
  replace R_x1 := rdb R_x1 b6
  have B6 := (B5).trans (b6.mono (B5).size)
  go_wp2_with fail
  refine (k_add 40 R_b R_c (F_b) (F_c) (by omega)).mono ?_
  rintro e w7 ⟨A7, d7, rfl, hd7, R_y1, b7⟩
  replace R_a := rdb R_a b7
  replace R_b := rdb R_b b7
  replace R_c := rdb R_c b7
  replace R_x1 := rdb R_x1 b7
  replace R_x2 := rdb R_x2 b7
  have B7 := (B6).trans (b7.mono (B6).size)
  go_wp2_with fail
  refine (k_add 41 R_a R_y1 (Fit.mono (F_a) (show 40 ≤ 41 by omega)) (Fit.add (F_b) (F_c)) (by omega)).mono ?_
  rintro e w8 ⟨A8, d8, rfl, hd8, R_y2, b8⟩
  replace R_a := rdb R_a b8
  replace R_b := rdb R_b b8
  replace R_c := rdb R_c b8
  replace R_x1 := rdb R_x1 b8
  replace R_x2 := rdb R_x2 b8
  replace R_y1 := rdb R_y1 b8
  have B8 := (B7).trans (b8.mono (B7).size)
  go_wp2_with fail
  refine (k_same true R_x2 R_y2 (Fit.out (k := 42) (Fit.add (Fit.add (F_a) (F_b)) (Fit.mono (F_c) (show 40 ≤ 41 by omega))) (by omega)) (Fit.out (k := 42) (Fit.add (Fit.mono (F_a) (show 40 ≤ 41 by omega)) (Fit.add (F_b) (F_c))) (by omega)) (decide_eq_true (Nat.add_assoc a b c))).mono ?_
  rintro e w9 ⟨rfl, b9⟩
  replace R_a := rdb R_a b9
  replace R_b := rdb R_b b9
  replace R_c := rdb R_c b9
  replace R_x1 := rdb R_x1 b9
  replace R_x2 := rdb R_x2 b9
  replace R_y1 := rdb R_y1 b9
  replace R_y2 := rdb R_y2 b9
  have B9 := (B8).trans (b9.mono (B8).size)
  clear R_x1
  clear R_x2
  clear R_y1
  clear R_y2
  go_wp2_with fail
  refine (k_add 40 R_a R_b (F_a) (F_b) (by omega)).mono ?_
  rintro e w10 ⟨A10, d10, rfl, hd10, R_x1, b10⟩
  replace R_a := rdb R_a b10
  replace R_b := rdb R_b b10
  replace R_c := rdb R_c b10
  have B10 := (B9).trans (b10.mono (B9).size)
  go_wp2_with fail
  refine (k_add 40 R_b R_a (F_b) (F_a) (by omega)).mono ?_
  rintro e w11 ⟨A11, d11, rfl, hd11, R_x2, b11⟩
  replace R_a := rdb R_a b11
  replace R_b := rdb R_b b11
  replace R_c := rdb R_c b11
  replace R_x1 := rdb R_x1 b11
  have B11 := (B10).trans (b11.mono (B10).size)
  go_wp2_with fail
  refine (k_same true R_x1 R_x2 (Fit.out (k := 41) (Fit.add (F_a) (F_b)) (by omega)) (Fit.out (k := 41) (Fit.add (F_b) (F_a)) (by omega)) (decide_eq_true (Nat.add_comm a b))).mono ?_
  rintro e w12 ⟨rfl, b12⟩
  replace R_a := rdb R_a b12
  replace R_b := rdb R_b b12
  replace R_c := rdb R_c b12
  replace R_x1 := rdb R_x1 b12
  replace R_x2 := rdb R_x2 b12
  have B12 := (B11).trans (b12.mono (B11).size)
  clear R_x1
  clear R_x2
  go_wp2_with fail
  refine (k_add0 40 R_a F_a (by omega)).mono ?_
  rintro e w13 ⟨A13, d13, rfl, hd13, R_x1, b13⟩
  replace R_a := rdb R_a b13
  replace R_b := rdb R_b b13
  replace R_c := rdb R_c b13
  have B13 := (B12).trans (b13.mono (B12).size)
  go_wp2_with fail
  refine (k_same true R_x1 R_a (Fit.out (k := 40) (F_a) (by omega)) (Fit.out (k := 40) (F_a) (by omega)) (decide_eq_true (rfl))).mono ?_
  rintro e w14 ⟨rfl, b14⟩
  replace R_a := rdb R_a b14
  replace R_b := rdb R_b b14
  replace R_c := rdb R_c b14
  replace R_x1 := rdb R_x1 b14
  have B14 := (B13).trans (b14.mono (B13).size)
  clear R_x1
  go_wp2_with fail
  refine (k_mul 40 40 R_a R_b (F_a) (F_b) (by omega)).mono ?_
  rintro e w15 ⟨A15, d15, rfl, hd15, R_x1, b15⟩
  replace R_a := rdb R_a b15
  replace R_b := rdb R_b b15
  replace R_c := rdb R_c b15
  have B15 := (B14).trans (b15.mono (B14).size)
  go_wp2_with fail
  refine (k_mul 80 40 R_x1 R_c (Fit.mul (F_a) (F_b)) (F_c) (by omega)).mono ?_
  rintro e w16 ⟨A16, d16, rfl, hd16, R_x2, b16⟩
  replace R_a := rdb R_a b16
  replace R_b := rdb R_b b16
  replace R_c := rdb R_c b16
  replace R_x1 := rdb R_x1 b16
  have B16 := (B15).trans (b16.mono (B15).size)
  go_wp2_with fail
  refine (k_mul 40 40 R_b R_c (F_b) (F_c) (by omega)).mono ?_
  rintro e w17 ⟨A17, d17, rfl, hd17, R_y1, b17⟩
  replace R_a := rdb R_a b17
  replace R_b := rdb R_b b17
  replace R_c := rdb R_c b17
  replace R_x1 := rdb R_x1 b17
  replace R_x2 := rdb R_x2 b17
  have B17 := (B16).trans (b17.mono (B16).size)
  go_wp2_with fail
  refine (k_mul 40 80 R_a R_y1 (F_a) (Fit.mul (F_b) (F_c)) (by omega)).mono ?_
  rintro e w18 ⟨A18, d18, rfl, hd18, R_y2, b18⟩
  replace R_a := rdb R_a b18
  replace R_b := rdb R_b b18
  replace R_c := rdb R_c b18
  replace R_x1 := rdb R_x1 b18
  replace R_x2 := rdb R_x2 b18
  replace R_y1 := rdb R_y1 b18
  have B18 := (B17).trans (b18.mono (B17).size)
  go_wp2_with fail
  refine (k_same true R_x2 R_y2 (Fit.out (k := 120) (Fit.mul (Fit.mul (F_a) (F_b)) (F_c)) (by omega)) (Fit.out (k := 120) (Fit.mul (F_a) (Fit.mul (F_b) (F_c))) (by omega)) (decide_eq_true (Nat.mul_assoc a b c))).mono ?_
  rintro e w19 ⟨rfl, b19⟩
  replace R_a := rdb R_a b19
  replace R_b := rdb R_b b19
  replace R_c := rdb R_c b19
  replace R_x1 := rdb R_x1 b19
  replace R_x2 := rdb R_x2 b19
  replace R_y1 := rdb R_y1 b19
  replace R_y2 := rdb R_y2 b19
  have B19 := (B18).trans (b19.mono (B18).size)
  clear R_x1
  clear R_x2
  clear R_y1
  clear R_y2
  go_wp2_with fail
  refine (k_mul 40 40 R_a R_b (F_a) (F_b) (by omega)).mono ?_
  rintro e w20 ⟨A20, d20, rfl, hd20, R_x1, b20⟩
  replace R_a := rdb R_a b20
  replace R_b := rdb R_b b20
  replace R_c := rdb R_c b20
  have B20 := (B19).trans (b20.mono (B19).size)
  go_wp2_with fail
  refine (k_mul 40 40 R_b R_a (F_b) (F_a) (by omega)).mono ?_
  rintro e w21 ⟨A21, d21, rfl, hd21, R_x2, b21⟩
  replace R_a := rdb R_a b21
  replace R_b := rdb R_b b21
  replace R_c := rdb R_c b21
  replace R_x1 := rdb R_x1 b21
  have B21 := (B20).trans (b21.mono (B20).size)
  go_wp2_with fail
  refine (k_same true R_x1 R_x2 (Fit.out (k := 80) (Fit.mul (F_a) (F_b)) (by omega)) (Fit.out (k := 80) (Fit.mul (F_b) (F_a)) (by omega)) (decide_eq_true (Nat.mul_comm a b))).mono ?_
  rintro e w22 ⟨rfl, b22⟩
  replace R_a := rdb R_a b22
  replace R_b := rdb R_b b22
  replace R_c := rdb R_c b22
  replace R_x1 := rdb R_x1 b22
  replace R_x2 := rdb R_x2 b22
  have B22 := (B21).trans (b22.mono (B21).size)
  clear R_x1
  clear R_x2
  go_wp2_with fail
  refine (k_mul1 40 R_a F_a (by omega)).mono ?_
  rintro e w23 ⟨A23, d23, rfl, hd23, R_x1, b23⟩
  replace R_a := rdb R_a b23
  replace R_b := rdb R_b b23
  replace R_c := rdb R_c b23
  have B23 := (B22).trans (b23.mono (B22).size)
  go_wp2_with fail
  refine (k_same true R_x1 R_a (Fit.out (k := 40) (F_a) (by omega)) (Fit.out (k := 40) (F_a) (by omega)) (decide_eq_true (rfl))).mono ?_
  rintro e w24 ⟨rfl, b24⟩
  replace R_a := rdb R_a b24
  replace R_b := rdb R_b b24
  replace R_c := rdb R_c b24
  replace R_x1 := rdb R_x1 b24
  have B24 := (B23).trans (b24.mono (B23).size)
  clear R_x1
  go_wp2_with fail
  refine (k_mul0 40 R_a F_a (by omega)).mono ?_
  rintro e w25 ⟨A25, d25, rfl, hd25, R_x1, b25⟩
  replace R_a := rdb R_a b25
  replace R_b := rdb R_b b25
  replace R_c := rdb R_c b25
  have B25 := (B24).trans (b25.mono (B24).size)
  rw [dg_zero]
  clear R_x1
  go_wp2_with fail
  refine (k_add 40 R_b R_c (F_b) (F_c) (by omega)).mono ?_
  rintro e w26 ⟨A26, d26, rfl, hd26, R_x1, b26⟩
  replace R_a := rdb R_a b26
  replace R_b := rdb R_b b26
  replace R_c := rdb R_c b26
  have B26 := (B25).trans (b26.mono (B25).size)
  go_wp2_with fail
  refine (k_mul 40 41 R_a R_x1 (F_a) (Fit.add (F_b) (F_c)) (by omega)).mono ?_
  rintro e w27 ⟨A27, d27, rfl, hd27, R_x2, b27⟩
  replace R_a := rdb R_a b27
  replace R_b := rdb R_b b27
  replace R_c := rdb R_c b27
  replace R_x1 := rdb R_x1 b27
  have B27 := (B26).trans (b27.mono (B26).size)
  go_wp2_with fail
  refine (k_mul 40 40 R_a R_b (F_a) (F_b) (by omega)).mono ?_
  rintro e w28 ⟨A28, d28, rfl, hd28, R_y1, b28⟩
  replace R_a := rdb R_a b28
  replace R_b := rdb R_b b28
  replace R_c := rdb R_c b28
  replace R_x1 := rdb R_x1 b28
  replace R_x2 := rdb R_x2 b28
  have B28 := (B27).trans (b28.mono (B27).size)
  go_wp2_with fail
  refine (k_mul 40 40 R_a R_c (F_a) (F_c) (by omega)).mono ?_
  rintro e w29 ⟨A29, d29, rfl, hd29, R_y2, b29⟩
  replace R_a := rdb R_a b29
  replace R_b := rdb R_b b29
  replace R_c := rdb R_c b29
  replace R_x1 := rdb R_x1 b29
  replace R_x2 := rdb R_x2 b29
  replace R_y1 := rdb R_y1 b29
  have B29 := (B28).trans (b29.mono (B28).size)
  go_wp2_with fail
  refine (k_add 80 R_y1 R_y2 (Fit.mul (F_a) (F_b)) (Fit.mul (F_a) (F_c)) (by omega)).mono ?_
  rintro e w30 ⟨A30, d30, rfl, hd30, R_z, b30⟩
  replace R_a := rdb R_a b30
  replace R_b := rdb R_b b30
  replace R_c := rdb R_c b30
  replace R_x1 := rdb R_x1 b30
  replace R_x2 := rdb R_x2 b30
  replace R_y1 := rdb R_y1 b30
  replace R_y2 := rdb R_y2 b30
  have B30 := (B29).trans (b30.mono (B29).size)
  go_wp2_with fail
  refine (k_same true R_x2 R_z (Fit.out (k := 81) (Fit.mul (F_a) (Fit.add (F_b) (F_c))) (by omega)) (Fit.out (k := 81) (Fit.add (Fit.mul (F_a) (F_b)) (Fit.mul (F_a) (F_c))) (by omega)) (decide_eq_true (Nat.mul_add a b c))).mono ?_
  rintro e w31 ⟨rfl, b31⟩
  replace R_a := rdb R_a b31
  replace R_b := rdb R_b b31
  replace R_c := rdb R_c b31
  replace R_x1 := rdb R_x1 b31
  replace R_x2 := rdb R_x2 b31
  replace R_y1 := rdb R_y1 b31
  replace R_y2 := rdb R_y2 b31
  replace R_z := rdb R_z b31
  have B31 := (B30).trans (b31.mono (B30).size)
  go_wp2_with fail
  go_ret
  exact ⟨rfl, B31⟩

end Go.Proofs.Ytagnfbgiofifgaa
