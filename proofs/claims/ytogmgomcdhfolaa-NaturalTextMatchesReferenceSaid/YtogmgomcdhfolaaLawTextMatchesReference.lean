/-
  NaturalTextMatchesReference: both sides agree on the texts of at most 30 limbs and the numbers of at most 300 bytes.
-/
import Derived.Test.YtogmgomcdhfolaaRefParse
namespace Go.Proofs.Ytogmgomcdhfolaa
open Go.RowKit Nt

set_option maxHeartbeats 4000000 in
set_option maxRecDepth 100000 in
theorem naturalTextMatchesReference_steps (c0 : Nat) (L0 : Option Addr) (l0 : List Nat) (s t : ByteArray) (h0 : l0.length ≤ 30) (h1 : s.size ≤ 300) (v : Nat) (z : Int) (F_v : (dg v).length ≤ 1024)
    (K_np : Hid (KPar 32 s v z)) (K_rp : Hid (KPar 33 s v z)) (K_nt : Hid (KStr 34 l0 t)) (K_rt : Hid (KStr 35 l0 t)) (w : World) (R_l0 : Hid (Rd w w.heap.size L0 l0)) :
    Calls Try.prog 4 #[.slice L0 l0.length c0, .string s] w (BackB w true) := by
  go_enter Try.func4, Try.ntmps4
  go_wp2_with fail
  refine (k_sanity).mono ?_
  rintro e w1 ⟨rfl, b1⟩
  replace R_l0 := rdb R_l0 b1
  go_wp2_with fail
  refine (K_np.out _).mono ?_
  rintro e w2 ⟨A2, d2, rfl, hd2, R_b, b2⟩
  replace R_l0 := rdb R_l0 b2
  have B2 := b1.trans (b2.mono b1.size)
  go_wp2_with fail
  refine (K_rp.out _).mono ?_
  rintro e w3 ⟨A3, d3, rfl, hd3, R_c, b3⟩
  replace R_l0 := rdb R_l0 b3
  replace R_b := rdb R_b b3
  have B3 := B2.trans (b3.mono B2.size)
  go_wp2_with fail
  refine (K_nt.out _ _ _ R_l0).mono ?_
  rintro e w4 ⟨rfl, b4⟩
  replace R_l0 := rdb R_l0 b4
  replace R_b := rdb R_b b4
  replace R_c := rdb R_c b4
  have B4 := B3.trans (b4.mono B3.size)
  go_wp2_with fail
  refine (K_rt.out _ _ _ R_l0).mono ?_
  rintro e w5 ⟨rfl, b5⟩
  replace R_b := rdb R_b b5
  replace R_c := rdb R_c b5
  have B5 := B4.trans (b5.mono B4.size)
  go_wp2_with fail
  refine (k_same true R_b R_c F_v F_v (decide_eq_true rfl)).mono ?_
  rintro e w6 ⟨rfl, b6⟩
  have B6 := B5.trans (b6.mono B5.size)
  go_wp2_with fail
  go_ret
  exact ⟨ret_bool (by simp), B6⟩

set_option maxRecDepth 100000 in
theorem naturalTextMatchesReference_long (c0 : Nat) (L0 : Option Addr) (l0 : List Nat) (s : ByteArray) (h0 : 30 < l0.length) (w : World) :
    Calls Try.prog 4 #[.slice L0 l0.length c0, .string s] w (BackB w true) := by
  go_enter Try.func4, Try.ntmps4
  go_wp2_with fail
  refine (k_sanity).mono ?_
  rintro e w1 ⟨rfl, b1⟩
  go_wp2_with fail
  go_ret
  exact ⟨rfl, b1⟩
set_option maxRecDepth 100000 in
theorem naturalTextMatchesReference_long2 (c0 : Nat) (L0 : Option Addr) (l0 : List Nat) (s : ByteArray) (h0 : l0.length ≤ 30) (h1 : 300 < s.size) (w : World) :
    Calls Try.prog 4 #[.slice L0 l0.length c0, .string s] w (BackB w true) := by
  go_enter Try.func4, Try.ntmps4
  go_wp2_with fail
  refine (k_sanity).mono ?_
  rintro e w1 ⟨rfl, b1⟩
  go_wp2_with fail
  go_ret
  exact ⟨rfl, b1⟩

theorem naturalTextMatchesReference_walk (n0 c0 : Nat) (L0 : Option Addr) (l0 : List Nat) (s : ByteArray) (w : World) (R_l0 : Hid (Rd w w.heap.size L0 l0)) (W0 : Hid (Wf l0 ∧ l0.length = n0 ∧ n0 ≤ 9223372036854775807 ∧ n0 ≤ c0)) :
    Calls Try.prog 4 #[.slice L0 n0 c0, .string s] w (BackB w true) := by
  obtain ⟨w0, rfl, hm0, hc0⟩ := W0.out
  by_cases h0 : l0.length ≤ 30
  · by_cases h1 : s.size ≤ 300
    · obtain ⟨v, z, hv, k1, k2⟩ := par_both h1
      exact naturalTextMatchesReference_steps c0 L0 l0 s _ h0 h1 v z hv k1 k2 (kn_text w0 (by omega)) (kr_text w0 (by omega)) w R_l0
    · exact naturalTextMatchesReference_long2 c0 L0 l0 s h0 (by omega) w
  · exact naturalTextMatchesReference_long c0 L0 l0 s (by omega) w

end Go.Proofs.Ytogmgomcdhfolaa
