/-
  NaturalOrder: Compare is a total order that sums and products preserve.
-/
import Derived.Test.YtagnfbgiofifgaaLawKit
namespace Go.Proofs.Ytagnfbgiofifgaa
open Go.RowKit Nt

set_option maxHeartbeats 4000000 in
set_option maxRecDepth 100000 in
theorem naturalOrder_pz (n0 c0 : Nat) (L0 : Option Addr) (l0 : List Nat) (n1 c1 : Nat) (L1 : Option Addr) (l1 : List Nat) (n2 c2 : Nat) (L2 : Option Addr) (l2 : List Nat) (a : Nat) (H_a : Hid (val (l0.take 40) = a)) (F_a : Fit 40 a) (b : Nat) (H_b : Hid (val (l1.take 40) = b)) (F_b : Fit 40 b) (c : Nat) (H_c : Hid (val (l2.take 40) = c)) (F_c : Fit 40 c) (x y z u : Int) (HX : Hid (cmpN a b = x)) (hx1 : -1 ≤ x) (hx2 : x ≤ 1) (_HY : Hid (cmpN b c = y)) (_HZ : Hid (cmpN a c = z)) (HU : Hid (cmpN (a + b) a = u)) (hu : 0 ≤ u) (hx : 0 < x) (hl : (((dg c).length : Int) == 0) = true) (w : World) (R_l0 : Hid (Rd w w.heap.size L0 l0)) (W0 : Hid (Wf l0 ∧ l0.length = n0 ∧ n0 ≤ 9223372036854775807 ∧ n0 ≤ c0)) (R_l1 : Hid (Rd w w.heap.size L1 l1)) (W1 : Hid (Wf l1 ∧ l1.length = n1 ∧ n1 ≤ 9223372036854775807 ∧ n1 ≤ c1)) (R_l2 : Hid (Rd w w.heap.size L2 l2)) (W2 : Hid (Wf l2 ∧ l2.length = n2 ∧ n2 ≤ 9223372036854775807 ∧ n2 ≤ c2)) :
    Calls Try.prog 8 #[.slice L0 n0 c0, .slice L1 n1 c1, .slice L2 n2 c2] w (BackB w true) := by
  go_enter Try.func8, Try.ntmps8
  go_wp2_with fail
  refine (k_sanity).mono ?_
  rintro e w1 ⟨rfl, b1⟩
  replace R_l0 := rdb R_l0 b1
  replace R_l1 := rdb R_l1 b1
  replace R_l2 := rdb R_l2 b1
  have B1 := (Below.refl w.heap.size w).trans (b1.mono (Below.refl w.heap.size w).size)
  go_wp2_with fail
  refine (k_made 40 R_l0 W0 H_a (by omega)).mono ?_
  rintro e w2 ⟨A2, d2, rfl, hd2, R_a, b2⟩
  replace R_l0 := rdb R_l0 b2
  replace R_l1 := rdb R_l1 b2
  replace R_l2 := rdb R_l2 b2
  have B2 := (B1).trans (b2.mono (B1).size)
  go_wp2_with fail
  refine (k_made 40 R_l1 W1 H_b (by omega)).mono ?_
  rintro e w3 ⟨A3, d3, rfl, hd3, R_b, b3⟩
  replace R_l0 := rdb R_l0 b3
  replace R_l1 := rdb R_l1 b3
  replace R_l2 := rdb R_l2 b3
  replace R_a := rdb R_a b3
  have B3 := (B2).trans (b3.mono (B2).size)
  go_wp2_with fail
  refine (k_made 40 R_l2 W2 H_c (by omega)).mono ?_
  rintro e w4 ⟨A4, d4, rfl, hd4, R_c, b4⟩
  replace R_l0 := rdb R_l0 b4
  replace R_l1 := rdb R_l1 b4
  replace R_l2 := rdb R_l2 b4
  replace R_a := rdb R_a b4
  replace R_b := rdb R_b b4
  have B4 := (B3).trans (b4.mono (B3).size)
  clear R_l0
  clear R_l1
  clear R_l2
  go_wp2_with fail
  refine (k_cmp x R_a R_b (Fit.out (k := 40) (F_a) (by omega)) (Fit.out (k := 40) (F_b) (by omega)) HX.out).mono ?_
  rintro e w5 ⟨rfl, b5⟩
  replace R_a := rdb R_a b5
  replace R_b := rdb R_b b5
  replace R_c := rdb R_c b5
  have B5 := (B4).trans (b5.mono (B4).size)
  go_wp2_with fail
  refine (k_cmp (-x) R_b R_a (Fit.out (k := 40) (F_b) (by omega)) (Fit.out (k := 40) (F_a) (by omega)) (by rw [cmpN_neg, HX.out])).mono ?_
  rintro e w6 ⟨rfl, b6⟩
  replace R_a := rdb R_a b6
  replace R_b := rdb R_b b6
  replace R_c := rdb R_c b6
  have B6 := (B5).trans (b6.mono (B5).size)
  go_wp2_with fail
  refine (k_same (x == 0) R_a R_b (Fit.out (k := 40) (F_a) (by omega)) (Fit.out (k := 40) (F_b) (by omega)) (same_zero HX.out)).mono ?_
  rintro e w7 ⟨rfl, b7⟩
  replace R_a := rdb R_a b7
  replace R_b := rdb R_b b7
  replace R_c := rdb R_c b7
  have B7 := (B6).trans (b7.mono (B6).size)
  go_wp2_with fail
  refine (k_add 40 R_a R_c (F_a) (F_c) (by omega)).mono ?_
  rintro e w8 ⟨A8, d8, rfl, hd8, R_x1, b8⟩
  replace R_a := rdb R_a b8
  replace R_b := rdb R_b b8
  replace R_c := rdb R_c b8
  have B8 := (B7).trans (b8.mono (B7).size)
  go_wp2_with fail
  refine (k_add 40 R_b R_c (F_b) (F_c) (by omega)).mono ?_
  rintro e w9 ⟨A9, d9, rfl, hd9, R_x2, b9⟩
  replace R_a := rdb R_a b9
  replace R_b := rdb R_b b9
  replace R_c := rdb R_c b9
  replace R_x1 := rdb R_x1 b9
  have B9 := (B8).trans (b9.mono (B8).size)
  go_wp2_with fail
  refine (k_cmp x R_x1 R_x2 (Fit.out (k := 41) (Fit.add (F_a) (F_c)) (by omega)) (Fit.out (k := 41) (Fit.add (F_b) (F_c)) (by omega)) (by rw [cmpN_add, HX.out])).mono ?_
  rintro e w10 ⟨rfl, b10⟩
  replace R_a := rdb R_a b10
  replace R_b := rdb R_b b10
  replace R_c := rdb R_c b10
  replace R_x1 := rdb R_x1 b10
  replace R_x2 := rdb R_x2 b10
  have B10 := (B9).trans (b10.mono (B9).size)
  clear R_x1
  clear R_x2
  go_wp2_with fail
  refine (k_add 40 R_a R_b (F_a) (F_b) (by omega)).mono ?_
  rintro e w11 ⟨A11, d11, rfl, hd11, R_x1, b11⟩
  replace R_a := rdb R_a b11
  replace R_b := rdb R_b b11
  replace R_c := rdb R_c b11
  have B11 := (B10).trans (b11.mono (B10).size)
  go_wp2_with fail
  refine (k_cmp u R_x1 R_a (Fit.out (k := 41) (Fit.add (F_a) (F_b)) (by omega)) (Fit.out (k := 40) (F_a) (by omega)) HU.out).mono ?_
  rintro e w12 ⟨rfl, b12⟩
  replace R_a := rdb R_a b12
  replace R_b := rdb R_b b12
  replace R_c := rdb R_c b12
  replace R_x1 := rdb R_x1 b12
  have B12 := (B11).trans (b12.mono (B11).size)
  clear R_x1
  go_wp2_with fail
  go_ret
  exact ⟨rfl, B12⟩

set_option maxHeartbeats 4000000 in
set_option maxRecDepth 100000 in
theorem naturalOrder_pn (n0 c0 : Nat) (L0 : Option Addr) (l0 : List Nat) (n1 c1 : Nat) (L1 : Option Addr) (l1 : List Nat) (n2 c2 : Nat) (L2 : Option Addr) (l2 : List Nat) (a : Nat) (H_a : Hid (val (l0.take 40) = a)) (F_a : Fit 40 a) (b : Nat) (H_b : Hid (val (l1.take 40) = b)) (F_b : Fit 40 b) (c : Nat) (H_c : Hid (val (l2.take 40) = c)) (F_c : Fit 40 c) (x y z u : Int) (HX : Hid (cmpN a b = x)) (hx1 : -1 ≤ x) (hx2 : x ≤ 1) (_HY : Hid (cmpN b c = y)) (_HZ : Hid (cmpN a c = z)) (HU : Hid (cmpN (a + b) a = u)) (hu : 0 ≤ u) (hx : 0 < x) (hl : (((dg c).length : Int) == 0) = false) (hc0 : Hid (0 < c)) (w : World) (R_l0 : Hid (Rd w w.heap.size L0 l0)) (W0 : Hid (Wf l0 ∧ l0.length = n0 ∧ n0 ≤ 9223372036854775807 ∧ n0 ≤ c0)) (R_l1 : Hid (Rd w w.heap.size L1 l1)) (W1 : Hid (Wf l1 ∧ l1.length = n1 ∧ n1 ≤ 9223372036854775807 ∧ n1 ≤ c1)) (R_l2 : Hid (Rd w w.heap.size L2 l2)) (W2 : Hid (Wf l2 ∧ l2.length = n2 ∧ n2 ≤ 9223372036854775807 ∧ n2 ≤ c2)) :
    Calls Try.prog 8 #[.slice L0 n0 c0, .slice L1 n1 c1, .slice L2 n2 c2] w (BackB w true) := by
  go_enter Try.func8, Try.ntmps8
  go_wp2_with fail
  refine (k_sanity).mono ?_
  rintro e w1 ⟨rfl, b1⟩
  replace R_l0 := rdb R_l0 b1
  replace R_l1 := rdb R_l1 b1
  replace R_l2 := rdb R_l2 b1
  have B1 := (Below.refl w.heap.size w).trans (b1.mono (Below.refl w.heap.size w).size)
  go_wp2_with fail
  refine (k_made 40 R_l0 W0 H_a (by omega)).mono ?_
  rintro e w2 ⟨A2, d2, rfl, hd2, R_a, b2⟩
  replace R_l0 := rdb R_l0 b2
  replace R_l1 := rdb R_l1 b2
  replace R_l2 := rdb R_l2 b2
  have B2 := (B1).trans (b2.mono (B1).size)
  go_wp2_with fail
  refine (k_made 40 R_l1 W1 H_b (by omega)).mono ?_
  rintro e w3 ⟨A3, d3, rfl, hd3, R_b, b3⟩
  replace R_l0 := rdb R_l0 b3
  replace R_l1 := rdb R_l1 b3
  replace R_l2 := rdb R_l2 b3
  replace R_a := rdb R_a b3
  have B3 := (B2).trans (b3.mono (B2).size)
  go_wp2_with fail
  refine (k_made 40 R_l2 W2 H_c (by omega)).mono ?_
  rintro e w4 ⟨A4, d4, rfl, hd4, R_c, b4⟩
  replace R_l0 := rdb R_l0 b4
  replace R_l1 := rdb R_l1 b4
  replace R_l2 := rdb R_l2 b4
  replace R_a := rdb R_a b4
  replace R_b := rdb R_b b4
  have B4 := (B3).trans (b4.mono (B3).size)
  clear R_l0
  clear R_l1
  clear R_l2
  go_wp2_with fail
  refine (k_cmp x R_a R_b (Fit.out (k := 40) (F_a) (by omega)) (Fit.out (k := 40) (F_b) (by omega)) HX.out).mono ?_
  rintro e w5 ⟨rfl, b5⟩
  replace R_a := rdb R_a b5
  replace R_b := rdb R_b b5
  replace R_c := rdb R_c b5
  have B5 := (B4).trans (b5.mono (B4).size)
  go_wp2_with fail
  refine (k_cmp (-x) R_b R_a (Fit.out (k := 40) (F_b) (by omega)) (Fit.out (k := 40) (F_a) (by omega)) (by rw [cmpN_neg, HX.out])).mono ?_
  rintro e w6 ⟨rfl, b6⟩
  replace R_a := rdb R_a b6
  replace R_b := rdb R_b b6
  replace R_c := rdb R_c b6
  have B6 := (B5).trans (b6.mono (B5).size)
  go_wp2_with fail
  refine (k_same (x == 0) R_a R_b (Fit.out (k := 40) (F_a) (by omega)) (Fit.out (k := 40) (F_b) (by omega)) (same_zero HX.out)).mono ?_
  rintro e w7 ⟨rfl, b7⟩
  replace R_a := rdb R_a b7
  replace R_b := rdb R_b b7
  replace R_c := rdb R_c b7
  have B7 := (B6).trans (b7.mono (B6).size)
  go_wp2_with fail
  refine (k_add 40 R_a R_c (F_a) (F_c) (by omega)).mono ?_
  rintro e w8 ⟨A8, d8, rfl, hd8, R_x1, b8⟩
  replace R_a := rdb R_a b8
  replace R_b := rdb R_b b8
  replace R_c := rdb R_c b8
  have B8 := (B7).trans (b8.mono (B7).size)
  go_wp2_with fail
  refine (k_add 40 R_b R_c (F_b) (F_c) (by omega)).mono ?_
  rintro e w9 ⟨A9, d9, rfl, hd9, R_x2, b9⟩
  replace R_a := rdb R_a b9
  replace R_b := rdb R_b b9
  replace R_c := rdb R_c b9
  replace R_x1 := rdb R_x1 b9
  have B9 := (B8).trans (b9.mono (B8).size)
  go_wp2_with fail
  refine (k_cmp x R_x1 R_x2 (Fit.out (k := 41) (Fit.add (F_a) (F_c)) (by omega)) (Fit.out (k := 41) (Fit.add (F_b) (F_c)) (by omega)) (by rw [cmpN_add, HX.out])).mono ?_
  rintro e w10 ⟨rfl, b10⟩
  replace R_a := rdb R_a b10
  replace R_b := rdb R_b b10
  replace R_c := rdb R_c b10
  replace R_x1 := rdb R_x1 b10
  replace R_x2 := rdb R_x2 b10
  have B10 := (B9).trans (b10.mono (B9).size)
  clear R_x1
  clear R_x2
  go_wp2_with fail
  refine (k_add 40 R_a R_b (F_a) (F_b) (by omega)).mono ?_
  rintro e w11 ⟨A11, d11, rfl, hd11, R_x1, b11⟩
  replace R_a := rdb R_a b11
  replace R_b := rdb R_b b11
  replace R_c := rdb R_c b11
  have B11 := (B10).trans (b11.mono (B10).size)
  go_wp2_with fail
  refine (k_cmp u R_x1 R_a (Fit.out (k := 41) (Fit.add (F_a) (F_b)) (by omega)) (Fit.out (k := 40) (F_a) (by omega)) HU.out).mono ?_
  rintro e w12 ⟨rfl, b12⟩
  replace R_a := rdb R_a b12
  replace R_b := rdb R_b b12
  replace R_c := rdb R_c b12
  replace R_x1 := rdb R_x1 b12
  have B12 := (B11).trans (b12.mono (B11).size)
  clear R_x1
  go_wp2_with fail
  refine (k_mul 40 40 R_a R_c (F_a) (F_c) (by omega)).mono ?_
  rintro e w13 ⟨A13, d13, rfl, hd13, R_x1, b13⟩
  replace R_a := rdb R_a b13
  replace R_b := rdb R_b b13
  replace R_c := rdb R_c b13
  have B13 := (B12).trans (b13.mono (B12).size)
  go_wp2_with fail
  refine (k_mul 40 40 R_b R_c (F_b) (F_c) (by omega)).mono ?_
  rintro e w14 ⟨A14, d14, rfl, hd14, R_x2, b14⟩
  replace R_a := rdb R_a b14
  replace R_b := rdb R_b b14
  replace R_c := rdb R_c b14
  replace R_x1 := rdb R_x1 b14
  have B14 := (B13).trans (b14.mono (B13).size)
  go_wp2_with fail
  refine (k_cmp x R_x1 R_x2 (Fit.out (k := 80) (Fit.mul (F_a) (F_c)) (by omega)) (Fit.out (k := 80) (Fit.mul (F_b) (F_c)) (by omega)) (by rw [cmpN_mul hc0.out, HX.out])).mono ?_
  rintro e w15 ⟨rfl, b15⟩
  replace R_a := rdb R_a b15
  replace R_b := rdb R_b b15
  replace R_c := rdb R_c b15
  replace R_x1 := rdb R_x1 b15
  replace R_x2 := rdb R_x2 b15
  have B15 := (B14).trans (b15.mono (B14).size)
  go_wp2_with fail
  go_ret
  exact ⟨rfl, B15⟩

set_option maxHeartbeats 4000000 in
set_option maxRecDepth 100000 in
theorem naturalOrder_qz (n0 c0 : Nat) (L0 : Option Addr) (l0 : List Nat) (n1 c1 : Nat) (L1 : Option Addr) (l1 : List Nat) (n2 c2 : Nat) (L2 : Option Addr) (l2 : List Nat) (a : Nat) (H_a : Hid (val (l0.take 40) = a)) (F_a : Fit 40 a) (b : Nat) (H_b : Hid (val (l1.take 40) = b)) (F_b : Fit 40 b) (c : Nat) (H_c : Hid (val (l2.take 40) = c)) (F_c : Fit 40 c) (x y z u : Int) (HX : Hid (cmpN a b = x)) (hx1 : -1 ≤ x) (hx2 : x ≤ 1) (HY : Hid (cmpN b c = y)) (_HZ : Hid (cmpN a c = z)) (HU : Hid (cmpN (a + b) a = u)) (hu : 0 ≤ u) (hx : x ≤ 0) (hy : 0 < y) (hl : (((dg c).length : Int) == 0) = true) (w : World) (R_l0 : Hid (Rd w w.heap.size L0 l0)) (W0 : Hid (Wf l0 ∧ l0.length = n0 ∧ n0 ≤ 9223372036854775807 ∧ n0 ≤ c0)) (R_l1 : Hid (Rd w w.heap.size L1 l1)) (W1 : Hid (Wf l1 ∧ l1.length = n1 ∧ n1 ≤ 9223372036854775807 ∧ n1 ≤ c1)) (R_l2 : Hid (Rd w w.heap.size L2 l2)) (W2 : Hid (Wf l2 ∧ l2.length = n2 ∧ n2 ≤ 9223372036854775807 ∧ n2 ≤ c2)) :
    Calls Try.prog 8 #[.slice L0 n0 c0, .slice L1 n1 c1, .slice L2 n2 c2] w (BackB w true) := by
  go_enter Try.func8, Try.ntmps8
  go_wp2_with fail
  refine (k_sanity).mono ?_
  rintro e w1 ⟨rfl, b1⟩
  replace R_l0 := rdb R_l0 b1
  replace R_l1 := rdb R_l1 b1
  replace R_l2 := rdb R_l2 b1
  have B1 := (Below.refl w.heap.size w).trans (b1.mono (Below.refl w.heap.size w).size)
  go_wp2_with fail
  refine (k_made 40 R_l0 W0 H_a (by omega)).mono ?_
  rintro e w2 ⟨A2, d2, rfl, hd2, R_a, b2⟩
  replace R_l0 := rdb R_l0 b2
  replace R_l1 := rdb R_l1 b2
  replace R_l2 := rdb R_l2 b2
  have B2 := (B1).trans (b2.mono (B1).size)
  go_wp2_with fail
  refine (k_made 40 R_l1 W1 H_b (by omega)).mono ?_
  rintro e w3 ⟨A3, d3, rfl, hd3, R_b, b3⟩
  replace R_l0 := rdb R_l0 b3
  replace R_l1 := rdb R_l1 b3
  replace R_l2 := rdb R_l2 b3
  replace R_a := rdb R_a b3
  have B3 := (B2).trans (b3.mono (B2).size)
  go_wp2_with fail
  refine (k_made 40 R_l2 W2 H_c (by omega)).mono ?_
  rintro e w4 ⟨A4, d4, rfl, hd4, R_c, b4⟩
  replace R_l0 := rdb R_l0 b4
  replace R_l1 := rdb R_l1 b4
  replace R_l2 := rdb R_l2 b4
  replace R_a := rdb R_a b4
  replace R_b := rdb R_b b4
  have B4 := (B3).trans (b4.mono (B3).size)
  clear R_l0
  clear R_l1
  clear R_l2
  go_wp2_with fail
  refine (k_cmp x R_a R_b (Fit.out (k := 40) (F_a) (by omega)) (Fit.out (k := 40) (F_b) (by omega)) HX.out).mono ?_
  rintro e w5 ⟨rfl, b5⟩
  replace R_a := rdb R_a b5
  replace R_b := rdb R_b b5
  replace R_c := rdb R_c b5
  have B5 := (B4).trans (b5.mono (B4).size)
  go_wp2_with fail
  refine (k_cmp (-x) R_b R_a (Fit.out (k := 40) (F_b) (by omega)) (Fit.out (k := 40) (F_a) (by omega)) (by rw [cmpN_neg, HX.out])).mono ?_
  rintro e w6 ⟨rfl, b6⟩
  replace R_a := rdb R_a b6
  replace R_b := rdb R_b b6
  replace R_c := rdb R_c b6
  have B6 := (B5).trans (b6.mono (B5).size)
  go_wp2_with fail
  refine (k_same (x == 0) R_a R_b (Fit.out (k := 40) (F_a) (by omega)) (Fit.out (k := 40) (F_b) (by omega)) (same_zero HX.out)).mono ?_
  rintro e w7 ⟨rfl, b7⟩
  replace R_a := rdb R_a b7
  replace R_b := rdb R_b b7
  replace R_c := rdb R_c b7
  have B7 := (B6).trans (b7.mono (B6).size)
  go_wp2_with fail
  refine (k_cmp y R_b R_c (Fit.out (k := 40) (F_b) (by omega)) (Fit.out (k := 40) (F_c) (by omega)) HY.out).mono ?_
  rintro e w8 ⟨rfl, b8⟩
  replace R_a := rdb R_a b8
  replace R_b := rdb R_b b8
  replace R_c := rdb R_c b8
  have B8 := (B7).trans (b8.mono (B7).size)
  go_wp2_with fail
  refine (k_add 40 R_a R_c (F_a) (F_c) (by omega)).mono ?_
  rintro e w9 ⟨A9, d9, rfl, hd9, R_x1, b9⟩
  replace R_a := rdb R_a b9
  replace R_b := rdb R_b b9
  replace R_c := rdb R_c b9
  have B9 := (B8).trans (b9.mono (B8).size)
  go_wp2_with fail
  refine (k_add 40 R_b R_c (F_b) (F_c) (by omega)).mono ?_
  rintro e w10 ⟨A10, d10, rfl, hd10, R_x2, b10⟩
  replace R_a := rdb R_a b10
  replace R_b := rdb R_b b10
  replace R_c := rdb R_c b10
  replace R_x1 := rdb R_x1 b10
  have B10 := (B9).trans (b10.mono (B9).size)
  go_wp2_with fail
  refine (k_cmp x R_x1 R_x2 (Fit.out (k := 41) (Fit.add (F_a) (F_c)) (by omega)) (Fit.out (k := 41) (Fit.add (F_b) (F_c)) (by omega)) (by rw [cmpN_add, HX.out])).mono ?_
  rintro e w11 ⟨rfl, b11⟩
  replace R_a := rdb R_a b11
  replace R_b := rdb R_b b11
  replace R_c := rdb R_c b11
  replace R_x1 := rdb R_x1 b11
  replace R_x2 := rdb R_x2 b11
  have B11 := (B10).trans (b11.mono (B10).size)
  clear R_x1
  clear R_x2
  go_wp2_with fail
  refine (k_add 40 R_a R_b (F_a) (F_b) (by omega)).mono ?_
  rintro e w12 ⟨A12, d12, rfl, hd12, R_x1, b12⟩
  replace R_a := rdb R_a b12
  replace R_b := rdb R_b b12
  replace R_c := rdb R_c b12
  have B12 := (B11).trans (b12.mono (B11).size)
  go_wp2_with fail
  refine (k_cmp u R_x1 R_a (Fit.out (k := 41) (Fit.add (F_a) (F_b)) (by omega)) (Fit.out (k := 40) (F_a) (by omega)) HU.out).mono ?_
  rintro e w13 ⟨rfl, b13⟩
  replace R_a := rdb R_a b13
  replace R_b := rdb R_b b13
  replace R_c := rdb R_c b13
  replace R_x1 := rdb R_x1 b13
  have B13 := (B12).trans (b13.mono (B12).size)
  clear R_x1
  go_wp2_with fail
  go_ret
  exact ⟨rfl, B13⟩

set_option maxHeartbeats 4000000 in
set_option maxRecDepth 100000 in
theorem naturalOrder_qn (n0 c0 : Nat) (L0 : Option Addr) (l0 : List Nat) (n1 c1 : Nat) (L1 : Option Addr) (l1 : List Nat) (n2 c2 : Nat) (L2 : Option Addr) (l2 : List Nat) (a : Nat) (H_a : Hid (val (l0.take 40) = a)) (F_a : Fit 40 a) (b : Nat) (H_b : Hid (val (l1.take 40) = b)) (F_b : Fit 40 b) (c : Nat) (H_c : Hid (val (l2.take 40) = c)) (F_c : Fit 40 c) (x y z u : Int) (HX : Hid (cmpN a b = x)) (hx1 : -1 ≤ x) (hx2 : x ≤ 1) (HY : Hid (cmpN b c = y)) (_HZ : Hid (cmpN a c = z)) (HU : Hid (cmpN (a + b) a = u)) (hu : 0 ≤ u) (hx : x ≤ 0) (hy : 0 < y) (hl : (((dg c).length : Int) == 0) = false) (hc0 : Hid (0 < c)) (w : World) (R_l0 : Hid (Rd w w.heap.size L0 l0)) (W0 : Hid (Wf l0 ∧ l0.length = n0 ∧ n0 ≤ 9223372036854775807 ∧ n0 ≤ c0)) (R_l1 : Hid (Rd w w.heap.size L1 l1)) (W1 : Hid (Wf l1 ∧ l1.length = n1 ∧ n1 ≤ 9223372036854775807 ∧ n1 ≤ c1)) (R_l2 : Hid (Rd w w.heap.size L2 l2)) (W2 : Hid (Wf l2 ∧ l2.length = n2 ∧ n2 ≤ 9223372036854775807 ∧ n2 ≤ c2)) :
    Calls Try.prog 8 #[.slice L0 n0 c0, .slice L1 n1 c1, .slice L2 n2 c2] w (BackB w true) := by
  go_enter Try.func8, Try.ntmps8
  go_wp2_with fail
  refine (k_sanity).mono ?_
  rintro e w1 ⟨rfl, b1⟩
  replace R_l0 := rdb R_l0 b1
  replace R_l1 := rdb R_l1 b1
  replace R_l2 := rdb R_l2 b1
  have B1 := (Below.refl w.heap.size w).trans (b1.mono (Below.refl w.heap.size w).size)
  go_wp2_with fail
  refine (k_made 40 R_l0 W0 H_a (by omega)).mono ?_
  rintro e w2 ⟨A2, d2, rfl, hd2, R_a, b2⟩
  replace R_l0 := rdb R_l0 b2
  replace R_l1 := rdb R_l1 b2
  replace R_l2 := rdb R_l2 b2
  have B2 := (B1).trans (b2.mono (B1).size)
  go_wp2_with fail
  refine (k_made 40 R_l1 W1 H_b (by omega)).mono ?_
  rintro e w3 ⟨A3, d3, rfl, hd3, R_b, b3⟩
  replace R_l0 := rdb R_l0 b3
  replace R_l1 := rdb R_l1 b3
  replace R_l2 := rdb R_l2 b3
  replace R_a := rdb R_a b3
  have B3 := (B2).trans (b3.mono (B2).size)
  go_wp2_with fail
  refine (k_made 40 R_l2 W2 H_c (by omega)).mono ?_
  rintro e w4 ⟨A4, d4, rfl, hd4, R_c, b4⟩
  replace R_l0 := rdb R_l0 b4
  replace R_l1 := rdb R_l1 b4
  replace R_l2 := rdb R_l2 b4
  replace R_a := rdb R_a b4
  replace R_b := rdb R_b b4
  have B4 := (B3).trans (b4.mono (B3).size)
  clear R_l0
  clear R_l1
  clear R_l2
  go_wp2_with fail
  refine (k_cmp x R_a R_b (Fit.out (k := 40) (F_a) (by omega)) (Fit.out (k := 40) (F_b) (by omega)) HX.out).mono ?_
  rintro e w5 ⟨rfl, b5⟩
  replace R_a := rdb R_a b5
  replace R_b := rdb R_b b5
  replace R_c := rdb R_c b5
  have B5 := (B4).trans (b5.mono (B4).size)
  go_wp2_with fail
  refine (k_cmp (-x) R_b R_a (Fit.out (k := 40) (F_b) (by omega)) (Fit.out (k := 40) (F_a) (by omega)) (by rw [cmpN_neg, HX.out])).mono ?_
  rintro e w6 ⟨rfl, b6⟩
  replace R_a := rdb R_a b6
  replace R_b := rdb R_b b6
  replace R_c := rdb R_c b6
  have B6 := (B5).trans (b6.mono (B5).size)
  go_wp2_with fail
  refine (k_same (x == 0) R_a R_b (Fit.out (k := 40) (F_a) (by omega)) (Fit.out (k := 40) (F_b) (by omega)) (same_zero HX.out)).mono ?_
  rintro e w7 ⟨rfl, b7⟩
  replace R_a := rdb R_a b7
  replace R_b := rdb R_b b7
  replace R_c := rdb R_c b7
  have B7 := (B6).trans (b7.mono (B6).size)
  go_wp2_with fail
  refine (k_cmp y R_b R_c (Fit.out (k := 40) (F_b) (by omega)) (Fit.out (k := 40) (F_c) (by omega)) HY.out).mono ?_
  rintro e w8 ⟨rfl, b8⟩
  replace R_a := rdb R_a b8
  replace R_b := rdb R_b b8
  replace R_c := rdb R_c b8
  have B8 := (B7).trans (b8.mono (B7).size)
  go_wp2_with fail
  refine (k_add 40 R_a R_c (F_a) (F_c) (by omega)).mono ?_
  rintro e w9 ⟨A9, d9, rfl, hd9, R_x1, b9⟩
  replace R_a := rdb R_a b9
  replace R_b := rdb R_b b9
  replace R_c := rdb R_c b9
  have B9 := (B8).trans (b9.mono (B8).size)
  go_wp2_with fail
  refine (k_add 40 R_b R_c (F_b) (F_c) (by omega)).mono ?_
  rintro e w10 ⟨A10, d10, rfl, hd10, R_x2, b10⟩
  replace R_a := rdb R_a b10
  replace R_b := rdb R_b b10
  replace R_c := rdb R_c b10
  replace R_x1 := rdb R_x1 b10
  have B10 := (B9).trans (b10.mono (B9).size)
  go_wp2_with fail
  refine (k_cmp x R_x1 R_x2 (Fit.out (k := 41) (Fit.add (F_a) (F_c)) (by omega)) (Fit.out (k := 41) (Fit.add (F_b) (F_c)) (by omega)) (by rw [cmpN_add, HX.out])).mono ?_
  rintro e w11 ⟨rfl, b11⟩
  replace R_a := rdb R_a b11
  replace R_b := rdb R_b b11
  replace R_c := rdb R_c b11
  replace R_x1 := rdb R_x1 b11
  replace R_x2 := rdb R_x2 b11
  have B11 := (B10).trans (b11.mono (B10).size)
  clear R_x1
  clear R_x2
  go_wp2_with fail
  refine (k_add 40 R_a R_b (F_a) (F_b) (by omega)).mono ?_
  rintro e w12 ⟨A12, d12, rfl, hd12, R_x1, b12⟩
  replace R_a := rdb R_a b12
  replace R_b := rdb R_b b12
  replace R_c := rdb R_c b12
  have B12 := (B11).trans (b12.mono (B11).size)
  go_wp2_with fail
  refine (k_cmp u R_x1 R_a (Fit.out (k := 41) (Fit.add (F_a) (F_b)) (by omega)) (Fit.out (k := 40) (F_a) (by omega)) HU.out).mono ?_
  rintro e w13 ⟨rfl, b13⟩
  replace R_a := rdb R_a b13
  replace R_b := rdb R_b b13
  replace R_c := rdb R_c b13
  replace R_x1 := rdb R_x1 b13
  have B13 := (B12).trans (b13.mono (B12).size)
  clear R_x1
  go_wp2_with fail
  refine (k_mul 40 40 R_a R_c (F_a) (F_c) (by omega)).mono ?_
  rintro e w14 ⟨A14, d14, rfl, hd14, R_x1, b14⟩
  replace R_a := rdb R_a b14
  replace R_b := rdb R_b b14
  replace R_c := rdb R_c b14
  have B14 := (B13).trans (b14.mono (B13).size)
  go_wp2_with fail
  refine (k_mul 40 40 R_b R_c (F_b) (F_c) (by omega)).mono ?_
  rintro e w15 ⟨A15, d15, rfl, hd15, R_x2, b15⟩
  replace R_a := rdb R_a b15
  replace R_b := rdb R_b b15
  replace R_c := rdb R_c b15
  replace R_x1 := rdb R_x1 b15
  have B15 := (B14).trans (b15.mono (B14).size)
  go_wp2_with fail
  refine (k_cmp x R_x1 R_x2 (Fit.out (k := 80) (Fit.mul (F_a) (F_c)) (by omega)) (Fit.out (k := 80) (Fit.mul (F_b) (F_c)) (by omega)) (by rw [cmpN_mul hc0.out, HX.out])).mono ?_
  rintro e w16 ⟨rfl, b16⟩
  replace R_a := rdb R_a b16
  replace R_b := rdb R_b b16
  replace R_c := rdb R_c b16
  replace R_x1 := rdb R_x1 b16
  replace R_x2 := rdb R_x2 b16
  have B16 := (B15).trans (b16.mono (B15).size)
  go_wp2_with fail
  go_ret
  exact ⟨rfl, B16⟩

set_option maxHeartbeats 4000000 in
set_option maxRecDepth 100000 in
theorem naturalOrder_rz (n0 c0 : Nat) (L0 : Option Addr) (l0 : List Nat) (n1 c1 : Nat) (L1 : Option Addr) (l1 : List Nat) (n2 c2 : Nat) (L2 : Option Addr) (l2 : List Nat) (a : Nat) (H_a : Hid (val (l0.take 40) = a)) (F_a : Fit 40 a) (b : Nat) (H_b : Hid (val (l1.take 40) = b)) (F_b : Fit 40 b) (c : Nat) (H_c : Hid (val (l2.take 40) = c)) (F_c : Fit 40 c) (x y z u : Int) (HX : Hid (cmpN a b = x)) (hx1 : -1 ≤ x) (hx2 : x ≤ 1) (HY : Hid (cmpN b c = y)) (HZ : Hid (cmpN a c = z)) (HU : Hid (cmpN (a + b) a = u)) (hu : 0 ≤ u) (hx : x ≤ 0) (hy : y ≤ 0) (hz : z ≤ 0) (hl : (((dg c).length : Int) == 0) = true) (w : World) (R_l0 : Hid (Rd w w.heap.size L0 l0)) (W0 : Hid (Wf l0 ∧ l0.length = n0 ∧ n0 ≤ 9223372036854775807 ∧ n0 ≤ c0)) (R_l1 : Hid (Rd w w.heap.size L1 l1)) (W1 : Hid (Wf l1 ∧ l1.length = n1 ∧ n1 ≤ 9223372036854775807 ∧ n1 ≤ c1)) (R_l2 : Hid (Rd w w.heap.size L2 l2)) (W2 : Hid (Wf l2 ∧ l2.length = n2 ∧ n2 ≤ 9223372036854775807 ∧ n2 ≤ c2)) :
    Calls Try.prog 8 #[.slice L0 n0 c0, .slice L1 n1 c1, .slice L2 n2 c2] w (BackB w true) := by
  go_enter Try.func8, Try.ntmps8
  go_wp2_with fail
  refine (k_sanity).mono ?_
  rintro e w1 ⟨rfl, b1⟩
  replace R_l0 := rdb R_l0 b1
  replace R_l1 := rdb R_l1 b1
  replace R_l2 := rdb R_l2 b1
  have B1 := (Below.refl w.heap.size w).trans (b1.mono (Below.refl w.heap.size w).size)
  go_wp2_with fail
  refine (k_made 40 R_l0 W0 H_a (by omega)).mono ?_
  rintro e w2 ⟨A2, d2, rfl, hd2, R_a, b2⟩
  replace R_l0 := rdb R_l0 b2
  replace R_l1 := rdb R_l1 b2
  replace R_l2 := rdb R_l2 b2
  have B2 := (B1).trans (b2.mono (B1).size)
  go_wp2_with fail
  refine (k_made 40 R_l1 W1 H_b (by omega)).mono ?_
  rintro e w3 ⟨A3, d3, rfl, hd3, R_b, b3⟩
  replace R_l0 := rdb R_l0 b3
  replace R_l1 := rdb R_l1 b3
  replace R_l2 := rdb R_l2 b3
  replace R_a := rdb R_a b3
  have B3 := (B2).trans (b3.mono (B2).size)
  go_wp2_with fail
  refine (k_made 40 R_l2 W2 H_c (by omega)).mono ?_
  rintro e w4 ⟨A4, d4, rfl, hd4, R_c, b4⟩
  replace R_l0 := rdb R_l0 b4
  replace R_l1 := rdb R_l1 b4
  replace R_l2 := rdb R_l2 b4
  replace R_a := rdb R_a b4
  replace R_b := rdb R_b b4
  have B4 := (B3).trans (b4.mono (B3).size)
  clear R_l0
  clear R_l1
  clear R_l2
  go_wp2_with fail
  refine (k_cmp x R_a R_b (Fit.out (k := 40) (F_a) (by omega)) (Fit.out (k := 40) (F_b) (by omega)) HX.out).mono ?_
  rintro e w5 ⟨rfl, b5⟩
  replace R_a := rdb R_a b5
  replace R_b := rdb R_b b5
  replace R_c := rdb R_c b5
  have B5 := (B4).trans (b5.mono (B4).size)
  go_wp2_with fail
  refine (k_cmp (-x) R_b R_a (Fit.out (k := 40) (F_b) (by omega)) (Fit.out (k := 40) (F_a) (by omega)) (by rw [cmpN_neg, HX.out])).mono ?_
  rintro e w6 ⟨rfl, b6⟩
  replace R_a := rdb R_a b6
  replace R_b := rdb R_b b6
  replace R_c := rdb R_c b6
  have B6 := (B5).trans (b6.mono (B5).size)
  go_wp2_with fail
  refine (k_same (x == 0) R_a R_b (Fit.out (k := 40) (F_a) (by omega)) (Fit.out (k := 40) (F_b) (by omega)) (same_zero HX.out)).mono ?_
  rintro e w7 ⟨rfl, b7⟩
  replace R_a := rdb R_a b7
  replace R_b := rdb R_b b7
  replace R_c := rdb R_c b7
  have B7 := (B6).trans (b7.mono (B6).size)
  go_wp2_with fail
  refine (k_cmp y R_b R_c (Fit.out (k := 40) (F_b) (by omega)) (Fit.out (k := 40) (F_c) (by omega)) HY.out).mono ?_
  rintro e w8 ⟨rfl, b8⟩
  replace R_a := rdb R_a b8
  replace R_b := rdb R_b b8
  replace R_c := rdb R_c b8
  have B8 := (B7).trans (b8.mono (B7).size)
  go_wp2_with fail
  refine (k_cmp z R_a R_c (Fit.out (k := 40) (F_a) (by omega)) (Fit.out (k := 40) (F_c) (by omega)) HZ.out).mono ?_
  rintro e w9 ⟨rfl, b9⟩
  replace R_a := rdb R_a b9
  replace R_b := rdb R_b b9
  replace R_c := rdb R_c b9
  have B9 := (B8).trans (b9.mono (B8).size)
  go_wp2_with fail
  refine (k_add 40 R_a R_c (F_a) (F_c) (by omega)).mono ?_
  rintro e w10 ⟨A10, d10, rfl, hd10, R_x1, b10⟩
  replace R_a := rdb R_a b10
  replace R_b := rdb R_b b10
  replace R_c := rdb R_c b10
  have B10 := (B9).trans (b10.mono (B9).size)
  go_wp2_with fail
  refine (k_add 40 R_b R_c (F_b) (F_c) (by omega)).mono ?_
  rintro e w11 ⟨A11, d11, rfl, hd11, R_x2, b11⟩
  replace R_a := rdb R_a b11
  replace R_b := rdb R_b b11
  replace R_c := rdb R_c b11
  replace R_x1 := rdb R_x1 b11
  have B11 := (B10).trans (b11.mono (B10).size)
  go_wp2_with fail
  refine (k_cmp x R_x1 R_x2 (Fit.out (k := 41) (Fit.add (F_a) (F_c)) (by omega)) (Fit.out (k := 41) (Fit.add (F_b) (F_c)) (by omega)) (by rw [cmpN_add, HX.out])).mono ?_
  rintro e w12 ⟨rfl, b12⟩
  replace R_a := rdb R_a b12
  replace R_b := rdb R_b b12
  replace R_c := rdb R_c b12
  replace R_x1 := rdb R_x1 b12
  replace R_x2 := rdb R_x2 b12
  have B12 := (B11).trans (b12.mono (B11).size)
  clear R_x1
  clear R_x2
  go_wp2_with fail
  refine (k_add 40 R_a R_b (F_a) (F_b) (by omega)).mono ?_
  rintro e w13 ⟨A13, d13, rfl, hd13, R_x1, b13⟩
  replace R_a := rdb R_a b13
  replace R_b := rdb R_b b13
  replace R_c := rdb R_c b13
  have B13 := (B12).trans (b13.mono (B12).size)
  go_wp2_with fail
  refine (k_cmp u R_x1 R_a (Fit.out (k := 41) (Fit.add (F_a) (F_b)) (by omega)) (Fit.out (k := 40) (F_a) (by omega)) HU.out).mono ?_
  rintro e w14 ⟨rfl, b14⟩
  replace R_a := rdb R_a b14
  replace R_b := rdb R_b b14
  replace R_c := rdb R_c b14
  replace R_x1 := rdb R_x1 b14
  have B14 := (B13).trans (b14.mono (B13).size)
  clear R_x1
  go_wp2_with fail
  go_ret
  exact ⟨rfl, B14⟩

set_option maxHeartbeats 4000000 in
set_option maxRecDepth 100000 in
theorem naturalOrder_rn (n0 c0 : Nat) (L0 : Option Addr) (l0 : List Nat) (n1 c1 : Nat) (L1 : Option Addr) (l1 : List Nat) (n2 c2 : Nat) (L2 : Option Addr) (l2 : List Nat) (a : Nat) (H_a : Hid (val (l0.take 40) = a)) (F_a : Fit 40 a) (b : Nat) (H_b : Hid (val (l1.take 40) = b)) (F_b : Fit 40 b) (c : Nat) (H_c : Hid (val (l2.take 40) = c)) (F_c : Fit 40 c) (x y z u : Int) (HX : Hid (cmpN a b = x)) (hx1 : -1 ≤ x) (hx2 : x ≤ 1) (HY : Hid (cmpN b c = y)) (HZ : Hid (cmpN a c = z)) (HU : Hid (cmpN (a + b) a = u)) (hu : 0 ≤ u) (hx : x ≤ 0) (hy : y ≤ 0) (hz : z ≤ 0) (hl : (((dg c).length : Int) == 0) = false) (hc0 : Hid (0 < c)) (w : World) (R_l0 : Hid (Rd w w.heap.size L0 l0)) (W0 : Hid (Wf l0 ∧ l0.length = n0 ∧ n0 ≤ 9223372036854775807 ∧ n0 ≤ c0)) (R_l1 : Hid (Rd w w.heap.size L1 l1)) (W1 : Hid (Wf l1 ∧ l1.length = n1 ∧ n1 ≤ 9223372036854775807 ∧ n1 ≤ c1)) (R_l2 : Hid (Rd w w.heap.size L2 l2)) (W2 : Hid (Wf l2 ∧ l2.length = n2 ∧ n2 ≤ 9223372036854775807 ∧ n2 ≤ c2)) :
    Calls Try.prog 8 #[.slice L0 n0 c0, .slice L1 n1 c1, .slice L2 n2 c2] w (BackB w true) := by
  go_enter Try.func8, Try.ntmps8
  go_wp2_with fail
  refine (k_sanity).mono ?_
  rintro e w1 ⟨rfl, b1⟩
  replace R_l0 := rdb R_l0 b1
  replace R_l1 := rdb R_l1 b1
  replace R_l2 := rdb R_l2 b1
  have B1 := (Below.refl w.heap.size w).trans (b1.mono (Below.refl w.heap.size w).size)
  go_wp2_with fail
  refine (k_made 40 R_l0 W0 H_a (by omega)).mono ?_
  rintro e w2 ⟨A2, d2, rfl, hd2, R_a, b2⟩
  replace R_l0 := rdb R_l0 b2
  replace R_l1 := rdb R_l1 b2
  replace R_l2 := rdb R_l2 b2
  have B2 := (B1).trans (b2.mono (B1).size)
  go_wp2_with fail
  refine (k_made 40 R_l1 W1 H_b (by omega)).mono ?_
  rintro e w3 ⟨A3, d3, rfl, hd3, R_b, b3⟩
  replace R_l0 := rdb R_l0 b3
  replace R_l1 := rdb R_l1 b3
  replace R_l2 := rdb R_l2 b3
  replace R_a := rdb R_a b3
  have B3 := (B2).trans (b3.mono (B2).size)
  go_wp2_with fail
  refine (k_made 40 R_l2 W2 H_c (by omega)).mono ?_
  rintro e w4 ⟨A4, d4, rfl, hd4, R_c, b4⟩
  replace R_l0 := rdb R_l0 b4
  replace R_l1 := rdb R_l1 b4
  replace R_l2 := rdb R_l2 b4
  replace R_a := rdb R_a b4
  replace R_b := rdb R_b b4
  have B4 := (B3).trans (b4.mono (B3).size)
  clear R_l0
  clear R_l1
  clear R_l2
  go_wp2_with fail
  refine (k_cmp x R_a R_b (Fit.out (k := 40) (F_a) (by omega)) (Fit.out (k := 40) (F_b) (by omega)) HX.out).mono ?_
  rintro e w5 ⟨rfl, b5⟩
  replace R_a := rdb R_a b5
  replace R_b := rdb R_b b5
  replace R_c := rdb R_c b5
  have B5 := (B4).trans (b5.mono (B4).size)
  go_wp2_with fail
  refine (k_cmp (-x) R_b R_a (Fit.out (k := 40) (F_b) (by omega)) (Fit.out (k := 40) (F_a) (by omega)) (by rw [cmpN_neg, HX.out])).mono ?_
  rintro e w6 ⟨rfl, b6⟩
  replace R_a := rdb R_a b6
  replace R_b := rdb R_b b6
  replace R_c := rdb R_c b6
  have B6 := (B5).trans (b6.mono (B5).size)
  go_wp2_with fail
  refine (k_same (x == 0) R_a R_b (Fit.out (k := 40) (F_a) (by omega)) (Fit.out (k := 40) (F_b) (by omega)) (same_zero HX.out)).mono ?_
  rintro e w7 ⟨rfl, b7⟩
  replace R_a := rdb R_a b7
  replace R_b := rdb R_b b7
  replace R_c := rdb R_c b7
  have B7 := (B6).trans (b7.mono (B6).size)
  go_wp2_with fail
  refine (k_cmp y R_b R_c (Fit.out (k := 40) (F_b) (by omega)) (Fit.out (k := 40) (F_c) (by omega)) HY.out).mono ?_
  rintro e w8 ⟨rfl, b8⟩
  replace R_a := rdb R_a b8
  replace R_b := rdb R_b b8
  replace R_c := rdb R_c b8
  have B8 := (B7).trans (b8.mono (B7).size)
  go_wp2_with fail
  refine (k_cmp z R_a R_c (Fit.out (k := 40) (F_a) (by omega)) (Fit.out (k := 40) (F_c) (by omega)) HZ.out).mono ?_
  rintro e w9 ⟨rfl, b9⟩
  replace R_a := rdb R_a b9
  replace R_b := rdb R_b b9
  replace R_c := rdb R_c b9
  have B9 := (B8).trans (b9.mono (B8).size)
  go_wp2_with fail
  refine (k_add 40 R_a R_c (F_a) (F_c) (by omega)).mono ?_
  rintro e w10 ⟨A10, d10, rfl, hd10, R_x1, b10⟩
  replace R_a := rdb R_a b10
  replace R_b := rdb R_b b10
  replace R_c := rdb R_c b10
  have B10 := (B9).trans (b10.mono (B9).size)
  go_wp2_with fail
  refine (k_add 40 R_b R_c (F_b) (F_c) (by omega)).mono ?_
  rintro e w11 ⟨A11, d11, rfl, hd11, R_x2, b11⟩
  replace R_a := rdb R_a b11
  replace R_b := rdb R_b b11
  replace R_c := rdb R_c b11
  replace R_x1 := rdb R_x1 b11
  have B11 := (B10).trans (b11.mono (B10).size)
  go_wp2_with fail
  refine (k_cmp x R_x1 R_x2 (Fit.out (k := 41) (Fit.add (F_a) (F_c)) (by omega)) (Fit.out (k := 41) (Fit.add (F_b) (F_c)) (by omega)) (by rw [cmpN_add, HX.out])).mono ?_
  rintro e w12 ⟨rfl, b12⟩
  replace R_a := rdb R_a b12
  replace R_b := rdb R_b b12
  replace R_c := rdb R_c b12
  replace R_x1 := rdb R_x1 b12
  replace R_x2 := rdb R_x2 b12
  have B12 := (B11).trans (b12.mono (B11).size)
  clear R_x1
  clear R_x2
  go_wp2_with fail
  refine (k_add 40 R_a R_b (F_a) (F_b) (by omega)).mono ?_
  rintro e w13 ⟨A13, d13, rfl, hd13, R_x1, b13⟩
  replace R_a := rdb R_a b13
  replace R_b := rdb R_b b13
  replace R_c := rdb R_c b13
  have B13 := (B12).trans (b13.mono (B12).size)
  go_wp2_with fail
  refine (k_cmp u R_x1 R_a (Fit.out (k := 41) (Fit.add (F_a) (F_b)) (by omega)) (Fit.out (k := 40) (F_a) (by omega)) HU.out).mono ?_
  rintro e w14 ⟨rfl, b14⟩
  replace R_a := rdb R_a b14
  replace R_b := rdb R_b b14
  replace R_c := rdb R_c b14
  replace R_x1 := rdb R_x1 b14
  have B14 := (B13).trans (b14.mono (B13).size)
  clear R_x1
  go_wp2_with fail
  refine (k_mul 40 40 R_a R_c (F_a) (F_c) (by omega)).mono ?_
  rintro e w15 ⟨A15, d15, rfl, hd15, R_x1, b15⟩
  replace R_a := rdb R_a b15
  replace R_b := rdb R_b b15
  replace R_c := rdb R_c b15
  have B15 := (B14).trans (b15.mono (B14).size)
  go_wp2_with fail
  refine (k_mul 40 40 R_b R_c (F_b) (F_c) (by omega)).mono ?_
  rintro e w16 ⟨A16, d16, rfl, hd16, R_x2, b16⟩
  replace R_a := rdb R_a b16
  replace R_b := rdb R_b b16
  replace R_c := rdb R_c b16
  replace R_x1 := rdb R_x1 b16
  have B16 := (B15).trans (b16.mono (B15).size)
  go_wp2_with fail
  refine (k_cmp x R_x1 R_x2 (Fit.out (k := 80) (Fit.mul (F_a) (F_c)) (by omega)) (Fit.out (k := 80) (Fit.mul (F_b) (F_c)) (by omega)) (by rw [cmpN_mul hc0.out, HX.out])).mono ?_
  rintro e w17 ⟨rfl, b17⟩
  replace R_a := rdb R_a b17
  replace R_b := rdb R_b b17
  replace R_c := rdb R_c b17
  replace R_x1 := rdb R_x1 b17
  replace R_x2 := rdb R_x2 b17
  have B17 := (B16).trans (b17.mono (B16).size)
  go_wp2_with fail
  go_ret
  exact ⟨rfl, B17⟩

theorem naturalOrder_walk (n0 c0 : Nat) (L0 : Option Addr) (l0 : List Nat) (n1 c1 : Nat) (L1 : Option Addr) (l1 : List Nat) (n2 c2 : Nat) (L2 : Option Addr) (l2 : List Nat) (w : World) (R_l0 : Hid (Rd w w.heap.size L0 l0)) (W0 : Hid (Wf l0 ∧ l0.length = n0 ∧ n0 ≤ 9223372036854775807 ∧ n0 ≤ c0)) (R_l1 : Hid (Rd w w.heap.size L1 l1)) (W1 : Hid (Wf l1 ∧ l1.length = n1 ∧ n1 ≤ 9223372036854775807 ∧ n1 ≤ c1)) (R_l2 : Hid (Rd w w.heap.size L2 l2)) (W2 : Hid (Wf l2 ∧ l2.length = n2 ∧ n2 ≤ 9223372036854775807 ∧ n2 ≤ c2)) :
    Calls Try.prog 8 #[.slice L0 n0 c0, .slice L1 n1 c1, .slice L2 n2 c2] w (BackB w true) := by
  obtain ⟨a, H_a⟩ : ∃ v, Hid (val (l0.take 40) = v) := ⟨_, rfl⟩
  have F_a : Fit 40 a := by have h := Fit.list W0.out.1 40; rwa [H_a.out] at h
  obtain ⟨b, H_b⟩ : ∃ v, Hid (val (l1.take 40) = v) := ⟨_, rfl⟩
  have F_b : Fit 40 b := by have h := Fit.list W1.out.1 40; rwa [H_b.out] at h
  obtain ⟨c, H_c⟩ : ∃ v, Hid (val (l2.take 40) = v) := ⟨_, rfl⟩
  have F_c : Fit 40 c := by have h := Fit.list W2.out.1 40; rwa [H_c.out] at h
  have hu := cmpN_nonneg.2 (Nat.le_add_right a b)
  rcases Nat.eq_zero_or_pos c with h0 | h0
  · rcases Int.lt_or_le 0 (cmpN a b) with hx | hx
    · exact naturalOrder_pz n0 c0 L0 l0 n1 c1 L1 l1 n2 c2 L2 l2 a H_a F_a b H_b F_b c H_c F_c _ _ _ _ rfl (cmpN_range a b).1 (cmpN_range a b).2 rfl rfl rfl (cmpN_nonneg.2 (Nat.le_add_right a b)) hx (len_zero h0) w R_l0 W0 R_l1 W1 R_l2 W2
    · rcases Int.lt_or_le 0 (cmpN b c) with hy | hy
      · exact naturalOrder_qz n0 c0 L0 l0 n1 c1 L1 l1 n2 c2 L2 l2 a H_a F_a b H_b F_b c H_c F_c _ _ _ _ rfl (cmpN_range a b).1 (cmpN_range a b).2 rfl rfl rfl (cmpN_nonneg.2 (Nat.le_add_right a b)) hx hy (len_zero h0) w R_l0 W0 R_l1 W1 R_l2 W2
      · exact naturalOrder_rz n0 c0 L0 l0 n1 c1 L1 l1 n2 c2 L2 l2 a H_a F_a b H_b F_b c H_c F_c _ _ _ _ rfl (cmpN_range a b).1 (cmpN_range a b).2 rfl rfl rfl (cmpN_nonneg.2 (Nat.le_add_right a b)) hx hy (cmpN_nonpos.2 (Nat.le_trans (cmpN_nonpos.1 hx) (cmpN_nonpos.1 hy))) (len_zero h0) w R_l0 W0 R_l1 W1 R_l2 W2
  · rcases Int.lt_or_le 0 (cmpN a b) with hx | hx
    · exact naturalOrder_pn n0 c0 L0 l0 n1 c1 L1 l1 n2 c2 L2 l2 a H_a F_a b H_b F_b c H_c F_c _ _ _ _ rfl (cmpN_range a b).1 (cmpN_range a b).2 rfl rfl rfl (cmpN_nonneg.2 (Nat.le_add_right a b)) hx (len_pos h0) h0 w R_l0 W0 R_l1 W1 R_l2 W2
    · rcases Int.lt_or_le 0 (cmpN b c) with hy | hy
      · exact naturalOrder_qn n0 c0 L0 l0 n1 c1 L1 l1 n2 c2 L2 l2 a H_a F_a b H_b F_b c H_c F_c _ _ _ _ rfl (cmpN_range a b).1 (cmpN_range a b).2 rfl rfl rfl (cmpN_nonneg.2 (Nat.le_add_right a b)) hx hy (len_pos h0) h0 w R_l0 W0 R_l1 W1 R_l2 W2
      · exact naturalOrder_rn n0 c0 L0 l0 n1 c1 L1 l1 n2 c2 L2 l2 a H_a F_a b H_b F_b c H_c F_c _ _ _ _ rfl (cmpN_range a b).1 (cmpN_range a b).2 rfl rfl rfl (cmpN_nonneg.2 (Nat.le_add_right a b)) hx hy (cmpN_nonpos.2 (Nat.le_trans (cmpN_nonpos.1 hx) (cmpN_nonpos.1 hy))) (len_pos h0) h0 w R_l0 W0 R_l1 W1 R_l2 W2

end Go.Proofs.Ytagnfbgiofifgaa
