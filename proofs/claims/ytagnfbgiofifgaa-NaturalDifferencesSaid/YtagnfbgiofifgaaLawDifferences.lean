/-
  NaturalDifferences: Sub undoes Add, and fails exactly if the first number is less.
-/
import Derived.Test.YtagnfbgiofifgaaLawKit
namespace Go.Proofs.Ytagnfbgiofifgaa
open Go.RowKit Nt

set_option maxHeartbeats 4000000 in
set_option maxRecDepth 100000 in
theorem naturalDifferences_lt (n0 c0 : Nat) (L0 : Option Addr) (l0 : List Nat) (n1 c1 : Nat) (L1 : Option Addr) (l1 : List Nat) (a : Nat) (H_a : Hid (val (l0.take 60) = a)) (F_a : Fit 60 a) (b : Nat) (H_b : Hid (val (l1.take 60) = b)) (F_b : Fit 60 b) (hab : b < a) (w : World) (R_l0 : Hid (Rd w w.heap.size L0 l0)) (W0 : Hid (Wf l0 ∧ l0.length = n0 ∧ n0 ≤ 9223372036854775807 ∧ n0 ≤ c0)) (R_l1 : Hid (Rd w w.heap.size L1 l1)) (W1 : Hid (Wf l1 ∧ l1.length = n1 ∧ n1 ≤ 9223372036854775807 ∧ n1 ≤ c1)) :
    Calls Try.prog 7 #[.slice L0 n0 c0, .slice L1 n1 c1] w (BackB w true) := by
  go_enter Try.func7, Try.ntmps7
  go_wp2_with fail
  refine (k_sanity).mono ?_
  rintro e w1 ⟨rfl, b1⟩
  replace R_l0 := rdb R_l0 b1
  replace R_l1 := rdb R_l1 b1
  have B1 := (Below.refl w.heap.size w).trans (b1.mono (Below.refl w.heap.size w).size)
  go_wp2_with fail
  refine (k_made 60 R_l0 W0 H_a (by omega)).mono ?_
  rintro e w2 ⟨A2, d2, rfl, hd2, R_a, b2⟩
  replace R_l0 := rdb R_l0 b2
  replace R_l1 := rdb R_l1 b2
  have B2 := (B1).trans (b2.mono (B1).size)
  go_wp2_with fail
  refine (k_made 60 R_l1 W1 H_b (by omega)).mono ?_
  rintro e w3 ⟨A3, d3, rfl, hd3, R_b, b3⟩
  replace R_l0 := rdb R_l0 b3
  replace R_l1 := rdb R_l1 b3
  replace R_a := rdb R_a b3
  have B3 := (B2).trans (b3.mono (B2).size)
  clear R_l0
  clear R_l1
  go_wp2_with fail
  refine (k_add 60 R_a R_b (F_a) (F_b) (by omega)).mono ?_
  rintro e w4 ⟨A4, d4, rfl, hd4, R_x1, b4⟩
  replace R_a := rdb R_a b4
  replace R_b := rdb R_b b4
  have B4 := (B3).trans (b4.mono (B3).size)
  go_wp2_with fail
  refine (k_sub a 0 R_x1 R_b (Fit.out (k := 61) (Fit.add (F_a) (F_b)) (by omega)) (Fit.out (k := 60) (F_b) (by omega)) (subE_ge (Nat.le_add_left b a)) (Nat.add_sub_cancel _ _)).mono ?_
  rintro e w5 ⟨A5, d5, rfl, hd5, R_bk, b5⟩
  replace R_a := rdb R_a b5
  replace R_b := rdb R_b b5
  replace R_x1 := rdb R_x1 b5
  have B5 := (B4).trans (b5.mono (B4).size)
  go_wp2_with fail
  refine (k_same true R_bk R_a (Fit.out (k := 60) (F_a) (by omega)) (Fit.out (k := 60) (F_a) (by omega)) (decide_eq_true (rfl))).mono ?_
  rintro e w6 ⟨rfl, b6⟩
  replace R_a := rdb R_a b6
  replace R_b := rdb R_b b6
  replace R_x1 := rdb R_x1 b6
  replace R_bk := rdb R_bk b6
  have B6 := (B5).trans (b6.mono (B5).size)
  clear R_x1
  clear R_bk
  go_wp2_with fail
  refine (k_sub_neg R_b R_a (Fit.out (k := 60) (F_b) (by omega)) (Fit.out (k := 60) (F_a) (by omega)) hab).mono ?_
  rintro e w7 ⟨A7, d7, rfl, hd7, R_d, b7⟩
  replace R_a := rdb R_a b7
  replace R_b := rdb R_b b7
  have B7 := (B6).trans (b7.mono (B6).size)
  rw [dg_zero]
  clear R_d
  go_wp2_with fail
  refine (k_cmp (-1) R_b R_a (Fit.out (k := 60) (F_b) (by omega)) (Fit.out (k := 60) (F_a) (by omega)) (cmpN_lt hab)).mono ?_
  rintro e w8 ⟨rfl, b8⟩
  replace R_a := rdb R_a b8
  replace R_b := rdb R_b b8
  have B8 := (B7).trans (b8.mono (B7).size)
  go_wp2_with fail
  go_ret
  exact ⟨rfl, B8⟩

set_option maxHeartbeats 4000000 in
set_option maxRecDepth 100000 in
theorem naturalDifferences_ge (n0 c0 : Nat) (L0 : Option Addr) (l0 : List Nat) (n1 c1 : Nat) (L1 : Option Addr) (l1 : List Nat) (a : Nat) (H_a : Hid (val (l0.take 60) = a)) (F_a : Fit 60 a) (b : Nat) (H_b : Hid (val (l1.take 60) = b)) (F_b : Fit 60 b) (hab : a ≤ b) (v : Nat) (hv : Hid (b - a = v)) (F_v : Fit 60 v) (z : Int) (HZ : Hid (cmpN b a = z)) (hz0 : 0 ≤ z) (w : World) (R_l0 : Hid (Rd w w.heap.size L0 l0)) (W0 : Hid (Wf l0 ∧ l0.length = n0 ∧ n0 ≤ 9223372036854775807 ∧ n0 ≤ c0)) (R_l1 : Hid (Rd w w.heap.size L1 l1)) (W1 : Hid (Wf l1 ∧ l1.length = n1 ∧ n1 ≤ 9223372036854775807 ∧ n1 ≤ c1)) :
    Calls Try.prog 7 #[.slice L0 n0 c0, .slice L1 n1 c1] w (BackB w true) := by
  go_enter Try.func7, Try.ntmps7
  go_wp2_with fail
  refine (k_sanity).mono ?_
  rintro e w1 ⟨rfl, b1⟩
  replace R_l0 := rdb R_l0 b1
  replace R_l1 := rdb R_l1 b1
  have B1 := (Below.refl w.heap.size w).trans (b1.mono (Below.refl w.heap.size w).size)
  go_wp2_with fail
  refine (k_made 60 R_l0 W0 H_a (by omega)).mono ?_
  rintro e w2 ⟨A2, d2, rfl, hd2, R_a, b2⟩
  replace R_l0 := rdb R_l0 b2
  replace R_l1 := rdb R_l1 b2
  have B2 := (B1).trans (b2.mono (B1).size)
  go_wp2_with fail
  refine (k_made 60 R_l1 W1 H_b (by omega)).mono ?_
  rintro e w3 ⟨A3, d3, rfl, hd3, R_b, b3⟩
  replace R_l0 := rdb R_l0 b3
  replace R_l1 := rdb R_l1 b3
  replace R_a := rdb R_a b3
  have B3 := (B2).trans (b3.mono (B2).size)
  clear R_l0
  clear R_l1
  go_wp2_with fail
  refine (k_add 60 R_a R_b (F_a) (F_b) (by omega)).mono ?_
  rintro e w4 ⟨A4, d4, rfl, hd4, R_x1, b4⟩
  replace R_a := rdb R_a b4
  replace R_b := rdb R_b b4
  have B4 := (B3).trans (b4.mono (B3).size)
  go_wp2_with fail
  refine (k_sub a 0 R_x1 R_b (Fit.out (k := 61) (Fit.add (F_a) (F_b)) (by omega)) (Fit.out (k := 60) (F_b) (by omega)) (subE_ge (Nat.le_add_left b a)) (Nat.add_sub_cancel _ _)).mono ?_
  rintro e w5 ⟨A5, d5, rfl, hd5, R_bk, b5⟩
  replace R_a := rdb R_a b5
  replace R_b := rdb R_b b5
  replace R_x1 := rdb R_x1 b5
  have B5 := (B4).trans (b5.mono (B4).size)
  go_wp2_with fail
  refine (k_same true R_bk R_a (Fit.out (k := 60) (F_a) (by omega)) (Fit.out (k := 60) (F_a) (by omega)) (decide_eq_true (rfl))).mono ?_
  rintro e w6 ⟨rfl, b6⟩
  replace R_a := rdb R_a b6
  replace R_b := rdb R_b b6
  replace R_x1 := rdb R_x1 b6
  replace R_bk := rdb R_bk b6
  have B6 := (B5).trans (b6.mono (B5).size)
  clear R_x1
  clear R_bk
  go_wp2_with fail
  refine (k_sub v 0 R_b R_a (Fit.out (k := 60) (F_b) (by omega)) (Fit.out (k := 60) (F_a) (by omega)) (subE_ge hab) hv.out).mono ?_
  rintro e w7 ⟨A7, d7, rfl, hd7, R_d, b7⟩
  replace R_a := rdb R_a b7
  replace R_b := rdb R_b b7
  have B7 := (B6).trans (b7.mono (B6).size)
  go_wp2_with fail
  refine (k_cmp z R_b R_a (Fit.out (k := 60) (F_b) (by omega)) (Fit.out (k := 60) (F_a) (by omega)) HZ.out).mono ?_
  rintro e w8 ⟨rfl, b8⟩
  replace R_a := rdb R_a b8
  replace R_b := rdb R_b b8
  replace R_d := rdb R_d b8
  have B8 := (B7).trans (b8.mono (B7).size)
  go_wp2_with fail
  refine (k_add 60 R_a R_d F_a F_v (by omega)).mono ?_
  rintro e w9 ⟨A9, d9, rfl, hd9, R_x1, b9⟩
  replace R_a := rdb R_a b9
  replace R_b := rdb R_b b9
  replace R_d := rdb R_d b9
  have B9 := (B8).trans (b9.mono (B8).size)
  go_wp2_with fail
  refine (k_same true R_x1 R_b (Fit.out (k := 61) (Fit.add F_a F_v) (by omega)) (Fit.out (k := 60) (F_b) (by omega)) (decide_eq_true (by rw [← hv.out]; exact Nat.add_sub_cancel' hab))).mono ?_
  rintro e w10 ⟨rfl, b10⟩
  replace R_a := rdb R_a b10
  replace R_b := rdb R_b b10
  replace R_d := rdb R_d b10
  replace R_x1 := rdb R_x1 b10
  have B10 := (B9).trans (b10.mono (B9).size)
  go_wp2_with fail
  go_ret
  exact ⟨rfl, B10⟩

theorem naturalDifferences_walk (n0 c0 : Nat) (L0 : Option Addr) (l0 : List Nat) (n1 c1 : Nat) (L1 : Option Addr) (l1 : List Nat) (w : World) (R_l0 : Hid (Rd w w.heap.size L0 l0)) (W0 : Hid (Wf l0 ∧ l0.length = n0 ∧ n0 ≤ 9223372036854775807 ∧ n0 ≤ c0)) (R_l1 : Hid (Rd w w.heap.size L1 l1)) (W1 : Hid (Wf l1 ∧ l1.length = n1 ∧ n1 ≤ 9223372036854775807 ∧ n1 ≤ c1)) :
    Calls Try.prog 7 #[.slice L0 n0 c0, .slice L1 n1 c1] w (BackB w true) := by
  obtain ⟨a, H_a⟩ : ∃ v, Hid (val (l0.take 60) = v) := ⟨_, rfl⟩
  have F_a : Fit 60 a := by have h := Fit.list W0.out.1 60; rwa [H_a.out] at h
  obtain ⟨b, H_b⟩ : ∃ v, Hid (val (l1.take 60) = v) := ⟨_, rfl⟩
  have F_b : Fit 60 b := by have h := Fit.list W1.out.1 60; rwa [H_b.out] at h
  rcases Nat.lt_or_ge b a with h | h
  · exact naturalDifferences_lt n0 c0 L0 l0 n1 c1 L1 l1 a H_a F_a b H_b F_b h w R_l0 W0 R_l1 W1
  · exact naturalDifferences_ge n0 c0 L0 l0 n1 c1 L1 l1 a H_a F_a b H_b F_b h _ rfl (F_b.sub a) _ rfl (cmpN_nonneg.2 h) w R_l0 W0 R_l1 W1

end Go.Proofs.Ytagnfbgiofifgaa
