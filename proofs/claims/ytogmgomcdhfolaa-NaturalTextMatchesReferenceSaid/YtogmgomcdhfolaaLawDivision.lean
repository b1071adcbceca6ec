/-
  NaturalDivision: the quotient times the divisor and the rest are the number, and the rest is less than the divisor.
-/
import Derived.Test.YtogmgomcdhfolaaLawKit
import Derived.Test.YtogmgomcdhfolaaDiv2
namespace Go.Proofs.Ytogmgomcdhfolaa
open Go.RowKit Nt

section
variable {w : World} {A A' : Option Addr} {c d a b : Nat}
theorem k_div (q r : Nat) (ha : Hid (Rd w w.heap.size A (dg a))) (hb : Hid (Rd w w.heap.size A' (dg b))) (la : (dg a).length ≤ 1024) (lb : (dg b).length ≤ 1024) (hc : (dg a).length ≤ c) (hb0 : 0 < b) (hq : a / b = q) (hr : a % b = r) :
    Calls Try.prog 22 #[.slice A (dg a).length c, .slice A' (dg b).length d] w (Back3 w q r 0) := by
  subst hq
  subst hr
  have hn0 : 0 < (dg b).length := by
    rcases Nat.eq_zero_or_pos (dg b).length with h | h
    · have := dg_eq_nil.1 (List.eq_nil_of_length_eq_zero h)
      omega
    · exact h
  rcases Nat.lt_or_ge a b with h | h
  · rw [Nat.div_eq_of_lt h, Nat.mod_eq_of_lt h]
    exact (div_less a b c d _ A A' w ha hb la rfl lb hn0 hc h).mono fun _ _ h => h.back
  · have hlen : (dg b).length ≤ (dg a).length := dg_length_mono h
    rcases Nat.lt_or_ge (dg b).length 2 with h2 | h2
    · have h1 : (dg b).length = 1 := by omega
      rw [h1]
      exact (div_one a b c d A A' w ha hb la h1 h).mono fun _ _ h => h.back
    · obtain ⟨pa, qa, rfl, ha1, ha2⟩ := ha.out (by omega)
      obtain ⟨pb, qb, rfl, hb1, hb2⟩ := hb.out hn0
      exact (div_many a b _ _ c d pa qa pb qb w rfl rfl h la h2 hlen ⟨ha1, ha2⟩ ⟨hb1, hb2⟩).mono fun _ _ h => h.back
theorem k_div0 (ha : Hid (Rd w w.heap.size A (dg a))) (la : (dg a).length ≤ 1024) (hb0 : b = 0) :
    Calls Try.prog 22 #[.slice A (dg a).length c, .slice A' (dg b).length d] w (Back3 w 0 0 11) := by
  subst hb0
  rw [dg_zero]
  exact (div_zero a c d A A' w ha la).mono fun _ _ h => h.back
end

set_option maxHeartbeats 4000000 in
set_option maxRecDepth 100000 in
theorem naturalDivision_z (n0 c0 : Nat) (L0 : Option Addr) (l0 : List Nat) (n1 c1 : Nat) (L1 : Option Addr) (l1 : List Nat) (a : Nat) (H_a : Hid (val (l0.take 40) = a)) (F_a : Fit 40 a) (b : Nat) (H_b : Hid (val (l1.take 20) = b)) (_F_b : Fit 20 b) (hl : (((dg b).length : Int) == 0) = true) (hb0 : Hid (b = 0)) (w : World) (R_l0 : Hid (Rd w w.heap.size L0 l0)) (W0 : Hid (Wf l0 ∧ l0.length = n0 ∧ n0 ≤ 9223372036854775807 ∧ n0 ≤ c0)) (R_l1 : Hid (Rd w w.heap.size L1 l1)) (W1 : Hid (Wf l1 ∧ l1.length = n1 ∧ n1 ≤ 9223372036854775807 ∧ n1 ≤ c1)) :
    Calls Try.prog 9 #[.slice L0 n0 c0, .slice L1 n1 c1] w (BackB w true) := by
  go_enter Try.func9, Try.ntmps9
  go_wp2_with fail
  refine (k_sanity).mono ?_
  rintro e w1 ⟨rfl, b1⟩
  replace R_l0 := rdb R_l0 b1
  replace R_l1 := rdb R_l1 b1
  have B1 := (Below.refl w.heap.size w).trans (b1.mono (Below.refl w.heap.size w).size)
  go_wp2_with fail
  refine (k_made 40 R_l0 W0 H_a (by omega)).mono ?_
  rintro e w2 ⟨A2, d2, rfl, hd2, R_a, b2⟩
  replace R_l0 := rdb R_l0 b2
  replace R_l1 := rdb R_l1 b2
  have B2 := (B1).trans (b2.mono (B1).size)
  go_wp2_with fail
  refine (k_made 20 R_l1 W1 H_b (by omega)).mono ?_
  rintro e w3 ⟨A3, d3, rfl, hd3, R_b, b3⟩
  replace R_l0 := rdb R_l0 b3
  replace R_l1 := rdb R_l1 b3
  replace R_a := rdb R_a b3
  have B3 := (B2).trans (b3.mono (B2).size)
  clear R_l0
  clear R_l1
  go_wp2_with fail
  refine (k_div0 R_a (Fit.out (k := 40) (F_a) (by omega)) hb0.out).mono ?_
  rintro e w4 ⟨A4, d4, A4r, d4r, rfl, hd4, hd4r, R_q, R_r, b4⟩
  replace R_a := rdb R_a b4
  replace R_b := rdb R_b b4
  have B4 := (B3).trans (b4.mono (B3).size)
  rw [dg_zero]
  go_wp2_with fail
  go_ret
  exact ⟨rfl, B4⟩

set_option maxHeartbeats 4000000 in
set_option maxRecDepth 100000 in
theorem naturalDivision_n (n0 c0 : Nat) (L0 : Option Addr) (l0 : List Nat) (n1 c1 : Nat) (L1 : Option Addr) (l1 : List Nat) (a : Nat) (H_a : Hid (val (l0.take 40) = a)) (F_a : Fit 40 a) (b : Nat) (H_b : Hid (val (l1.take 20) = b)) (F_b : Fit 20 b) (hl : (((dg b).length : Int) == 0) = false) (hb0 : Hid (0 < b)) (q r : Nat) (HQ : Hid (a / b = q)) (HR : Hid (a % b = r)) (F_q : Fit 40 q) (F_r : Fit 20 r) (hrb : Hid (r < b)) (w : World) (R_l0 : Hid (Rd w w.heap.size L0 l0)) (W0 : Hid (Wf l0 ∧ l0.length = n0 ∧ n0 ≤ 9223372036854775807 ∧ n0 ≤ c0)) (R_l1 : Hid (Rd w w.heap.size L1 l1)) (W1 : Hid (Wf l1 ∧ l1.length = n1 ∧ n1 ≤ 9223372036854775807 ∧ n1 ≤ c1)) :
    Calls Try.prog 9 #[.slice L0 n0 c0, .slice L1 n1 c1] w (BackB w true) := by
  go_enter Try.func9, Try.ntmps9
  go_wp2_with fail
  refine (k_sanity).mono ?_
  rintro e w1 ⟨rfl, b1⟩
  replace R_l0 := rdb R_l0 b1
  replace R_l1 := rdb R_l1 b1
  have B1 := (Below.refl w.heap.size w).trans (b1.mono (Below.refl w.heap.size w).size)
  go_wp2_with fail
  refine (k_made 40 R_l0 W0 H_a (by omega)).mono ?_
  rintro e w2 ⟨A2, d2, rfl, hd2, R_a, b2⟩
  replace R_l0 := rdb R_l0 b2
  replace R_l1 := rdb R_l1 b2
  have B2 := (B1).trans (b2.mono (B1).size)
  go_wp2_with fail
  refine (k_made 20 R_l1 W1 H_b (by omega)).mono ?_
  rintro e w3 ⟨A3, d3, rfl, hd3, R_b, b3⟩
  replace R_l0 := rdb R_l0 b3
  replace R_l1 := rdb R_l1 b3
  replace R_a := rdb R_a b3
  have B3 := (B2).trans (b3.mono (B2).size)
  clear R_l0
  clear R_l1
  go_wp2_with fail
  refine (k_div q r R_a R_b (Fit.out (k := 40) (F_a) (by omega)) (Fit.out (k := 20) (F_b) (by omega)) hd2 hb0.out HQ.out HR.out).mono ?_
  rintro e w4 ⟨A4, d4, A4r, d4r, rfl, hd4, hd4r, R_q, R_r, b4⟩
  replace R_a := rdb R_a b4
  replace R_b := rdb R_b b4
  have B4 := (B3).trans (b4.mono (B3).size)
  go_wp2_with fail
  refine (k_mul 40 20 R_a R_b (F_a) (F_b) (by omega)).mono ?_
  rintro e w5 ⟨A5, d5, rfl, hd5, R_x1, b5⟩
  replace R_a := rdb R_a b5
  replace R_b := rdb R_b b5
  replace R_q := rdb R_q b5
  replace R_r := rdb R_r b5
  have B5 := (B4).trans (b5.mono (B4).size)
  go_wp2_with fail
  refine (k_div a 0 R_x1 R_b (Fit.out (k := 60) (Fit.mul (F_a) (F_b)) (by omega)) (Fit.out (k := 20) (F_b) (by omega)) hd5 hb0.out (Nat.mul_div_cancel _ hb0.out) (Nat.mul_mod_left _ _)).mono ?_
  rintro e w6 ⟨A6, d6, A6r, d6r, rfl, hd6, hd6r, R_p, R_s, b6⟩
  replace R_a := rdb R_a b6
  replace R_b := rdb R_b b6
  replace R_q := rdb R_q b6
  replace R_r := rdb R_r b6
  replace R_x1 := rdb R_x1 b6
  have B6 := (B5).trans (b6.mono (B5).size)
  rw [dg_zero]
  clear R_x1
  clear R_s
  go_wp2_with fail
  refine (k_mul 40 20 R_q R_b (F_q) (F_b) (by omega)).mono ?_
  rintro e w7 ⟨A7, d7, rfl, hd7, R_x2, b7⟩
  replace R_a := rdb R_a b7
  replace R_b := rdb R_b b7
  replace R_q := rdb R_q b7
  replace R_r := rdb R_r b7
  replace R_p := rdb R_p b7
  have B7 := (B6).trans (b7.mono (B6).size)
  go_wp2_with fail
  refine (k_add 60 R_x2 R_r (Fit.mul (F_q) (F_b)) (Fit.mono (F_r) (show 20 ≤ 60 by omega)) (by omega)).mono ?_
  rintro e w8 ⟨A8, d8, rfl, hd8, R_x3, b8⟩
  replace R_a := rdb R_a b8
  replace R_b := rdb R_b b8
  replace R_q := rdb R_q b8
  replace R_r := rdb R_r b8
  replace R_p := rdb R_p b8
  replace R_x2 := rdb R_x2 b8
  have B8 := (B7).trans (b8.mono (B7).size)
  clear R_x2
  go_wp2_with fail
  refine (k_same true R_x3 R_a (Fit.out (k := 61) (Fit.add (Fit.mul (F_q) (F_b)) (Fit.mono (F_r) (show 20 ≤ 60 by omega))) (by omega)) (Fit.out (k := 40) (F_a) (by omega)) (decide_eq_true (by rw [← HQ.out, ← HR.out, Nat.mul_comm]; exact Nat.div_add_mod a b))).mono ?_
  rintro e w9 ⟨rfl, b9⟩
  replace R_a := rdb R_a b9
  replace R_b := rdb R_b b9
  replace R_q := rdb R_q b9
  replace R_r := rdb R_r b9
  replace R_p := rdb R_p b9
  replace R_x3 := rdb R_x3 b9
  have B9 := (B8).trans (b9.mono (B8).size)
  go_wp2_with fail
  refine (k_cmp (-1) R_r R_b (Fit.out (k := 20) (F_r) (by omega)) (Fit.out (k := 20) (F_b) (by omega)) (cmpN_lt hrb.out)).mono ?_
  rintro e w10 ⟨rfl, b10⟩
  replace R_a := rdb R_a b10
  replace R_b := rdb R_b b10
  replace R_q := rdb R_q b10
  replace R_r := rdb R_r b10
  replace R_p := rdb R_p b10
  replace R_x3 := rdb R_x3 b10
  have B10 := (B9).trans (b10.mono (B9).size)
  go_wp2_with fail
  refine (k_same true R_p R_a (Fit.out (k := 40) (F_a) (by omega)) (Fit.out (k := 40) (F_a) (by omega)) (decide_eq_true (rfl))).mono ?_
  rintro e w11 ⟨rfl, b11⟩
  replace R_a := rdb R_a b11
  replace R_b := rdb R_b b11
  replace R_q := rdb R_q b11
  replace R_r := rdb R_r b11
  replace R_p := rdb R_p b11
  replace R_x3 := rdb R_x3 b11
  have B11 := (B10).trans (b11.mono (B10).size)
  go_wp2_with fail
  go_ret
  exact ⟨rfl, B11⟩

theorem naturalDivision_walk (n0 c0 : Nat) (L0 : Option Addr) (l0 : List Nat) (n1 c1 : Nat) (L1 : Option Addr) (l1 : List Nat) (w : World) (R_l0 : Hid (Rd w w.heap.size L0 l0)) (W0 : Hid (Wf l0 ∧ l0.length = n0 ∧ n0 ≤ 9223372036854775807 ∧ n0 ≤ c0)) (R_l1 : Hid (Rd w w.heap.size L1 l1)) (W1 : Hid (Wf l1 ∧ l1.length = n1 ∧ n1 ≤ 9223372036854775807 ∧ n1 ≤ c1)) :
    Calls Try.prog 9 #[.slice L0 n0 c0, .slice L1 n1 c1] w (BackB w true) := by
  obtain ⟨a, H_a⟩ : ∃ v, Hid (val (l0.take 40) = v) := ⟨_, rfl⟩
  have F_a : Fit 40 a := by have h := Fit.list W0.out.1 40; rwa [H_a.out] at h
  obtain ⟨b, H_b⟩ : ∃ v, Hid (val (l1.take 20) = v) := ⟨_, rfl⟩
  have F_b : Fit 20 b := by have h := Fit.list W1.out.1 20; rwa [H_b.out] at h
  rcases Nat.eq_zero_or_pos b with h | h
  · exact naturalDivision_z n0 c0 L0 l0 n1 c1 L1 l1 a H_a F_a b H_b F_b (len_zero h) h w R_l0 W0 R_l1 W1
  · exact naturalDivision_n n0 c0 L0 l0 n1 c1 L1 l1 a H_a F_a b H_b F_b (len_pos h) h _ _ rfl rfl (F_a.le (Nat.div_le_self _ _)) (F_b.le (Nat.le_of_lt (Nat.mod_lt _ h))) (Nat.mod_lt _ h) w R_l0 W0 R_l1 W1

end Go.Proofs.Ytogmgomcdhfolaa
