/-
  natural.Add: the sum of two numbers.
-/
import Derived.Test.YtogmgomcdhfolaaCanon
namespace Go.Proofs.Ytogmgomcdhfolaa
open Go.RowKit Nt

theorem splice_full {L X : List Nat} (h : X.length = L.length) : splice L 0 X = X := by unfold splice; simp [h]

/-- the sum's limbs have the sum's value -/
theorem sum_val {a b n c : Nat} {X : List Nat} (hab : a < 4294967296 ^ (n - 1)) (hb : b < 4294967296 ^ (n - 1)) (hn : 0 < n)
    (h : val X + 4294967296 ^ n * c = a + b) : val X = a + b := by
  obtain ⟨m, rfl⟩ : ∃ m, n = m + 1 := ⟨n - 1, by omega⟩
  rw [Nat.add_sub_cancel] at hab hb
  rw [Nat.pow_succ] at h
  generalize 4294967296 ^ m = P at h hab hb
  have : c = 0 := by
    rcases Nat.eq_zero_or_pos c with h0 | h0
    · exact h0
    · have : P * 4294967296 * 1 ≤ P * 4294967296 * c := Nat.mul_le_mul_left _ h0
      omega
  subst this
  rw [Nat.mul_zero, Nat.add_zero] at h
  exact h

theorem sum_of {w w' : World} {g n : Nat} {a b : Nat} {e : Ending} (hn : n = (dg a).length + 1) (hle : (dg b).length ≤ (dg a).length)
    (h : Added w g 0 n (dg a ++ (List.replicate n 0).drop (dg a).length) (dg b) e w') :
    ∃ c X, e = .returned (.int .u32 ((c : Nat) : Int)) ∧ Wf X ∧ X.length = n ∧ val X = a + b ∧ Bk w' g X ∧ Upd g w w' := by
  obtain ⟨X, c, he, hx, hw, _, hv, hb, hu⟩ := h
  have hl : (dg a ++ (List.replicate n 0).drop (dg a).length).length = n := by simp; omega
  have e1 : List.take n (List.drop 0 (dg a ++ (List.replicate n 0).drop (dg a).length)) = dg a ++ (List.replicate n 0).drop (dg a).length := by
    rw [List.drop_zero, List.take_of_length_le (by omega)]
  rw [e1, val_append, List.drop_replicate, val_replicate, val_dg, val_dg, Nat.mul_zero, Nat.add_zero] at hv
  rw [splice_full (by omega)] at hb
  have h1 := lt_pow_dg a
  have h2 : b < 4294967296 ^ (dg a).length := Nat.lt_of_lt_of_le (lt_pow_dg b) (Nat.pow_le_pow_right (by omega) hle)
  subst hn
  exact ⟨c, X, he, hw, hx, sum_val h1 h2 (by omega) hv, hb, hu⟩

theorem wf_sum (a n : Nat) : Wf (dg a ++ (List.replicate n 0).drop (dg a).length) := wf_append.2 ⟨wf_dg a, (wf_replicate n).drop _⟩

set_option maxHeartbeats 2000000 in
theorem add_ok (a b c d : Nat) (A A' : Option Addr) (w : World) (ha : Rd w w.heap.size A (dg a)) (hb : Rd w w.heap.size A' (dg b)) (la : (dg a).length ≤ 1024) (lb : (dg b).length ≤ 1024) :
    Calls Try.prog 15 #[.slice A (dg a).length c, .slice A' (dg b).length d] w (Gives w (lim (a + b)) (limE (a + b))) := by
  have HA := Lib.hid ha
  have HB := Lib.hid hb
  clear ha hb
  have va := vldB_dg la
  have vb := vldB_dg lb
  have VA := Lib.hid va
  have VB := Lib.hid vb
  clear va vb
  by_cases hlt : (dg a).length < (dg b).length
  · go_enter Try.func15, Try.ntmps15
    go_wp2_with (first
      | (go_at_call 26; ((with_reducible refine (valid_yes c _ HA.out rfl (by omega) VA.out).mono ?_); rintro e w' ⟨rfl, rfl⟩))
      | (go_at_call 26; ((with_reducible refine (valid_yes d _ HB.out rfl (by omega) VB.out).mono ?_); rintro e w' ⟨rfl, rfl⟩))
      | (at_make; refine wpList_make_bk _ rfl _ _ 22 rfl Try.underlying22 _ _ _ _ ((dg b).length + 1) rfl rfl (by omega) (by omega) (by omega) ?_; intro w1 hbk1 hs1 hb1; have HB1 := Lib.hid hbk1; have HS1 := Lib.hid hs1; clear hbk1 hs1)
      | (with_reducible refine wpList_copy_bk rfl _ _ 22 23 rfl Try.underlying22 w.heap.size ((dg b).length + 1) ((dg b).length + 1) (List.replicate ((dg b).length + 1) 0) (dg b) A' (dg b).length d w.heap.size w.heap.size w rfl rfl HB1.out (by simp) (HB.out.below hb1) rfl (by omega) hb1 (Nat.le_refl _) ?_; intro w2 hbk2 hs2 hb2; have HB2 := Lib.hid hbk2; have HS2 := Lib.hid hs2; clear hbk2 hs2)
      | (go_at_call 40; refine (addTo_any w.heap.size 0 ((dg b).length + 1) ((dg b).length + 1) (dg a).length c A _ (dg a) _ (wf_sum b _) (wf_dg a) rfl (by omega) (by omega) (by simp) HB2.out (HA.out.below hb2)).mono ?_; intro e w3 had; obtain ⟨cr, X, rfl, hwx, hlx, hvx, hbx, hux⟩ := sum_of rfl (by omega) had; have HX := Lib.hid hbx; have HLX := Lib.hid hlx; have HVX := Lib.hid hvx; clear had hbx hlx hvx)
      | (go_at_call 41; refine (limited_any _ _ (HX.out.rd HX.out.lt) (Nat.le_refl _) hwx HLX.out (by omega) (by omega)).mono ?_; rintro e w4 ⟨v, rfl, h1, h2⟩))
    go_ret2
    rw [Nat.add_comm a b, ← HVX.out]
    exact ⟨v, rfl, h1, (hb2.trans (hux.below (Nat.le_refl _))).trans (h2.mono (by rw [hux.size]; exact hb2.size))⟩
  · go_enter Try.func15, Try.ntmps15
    go_wp2_with (first
      | (go_at_call 26; ((with_reducible refine (valid_yes c _ HA.out rfl (by omega) VA.out).mono ?_); rintro e w' ⟨rfl, rfl⟩))
      | (go_at_call 26; ((with_reducible refine (valid_yes d _ HB.out rfl (by omega) VB.out).mono ?_); rintro e w' ⟨rfl, rfl⟩))
      | (at_make; refine wpList_make_bk _ rfl _ _ 22 rfl Try.underlying22 _ _ _ _ ((dg a).length + 1) rfl rfl (by omega) (by omega) (by omega) ?_; intro w1 hbk1 hs1 hb1; have HB1 := Lib.hid hbk1; have HS1 := Lib.hid hs1; clear hbk1 hs1)
      | (with_reducible refine wpList_copy_bk rfl _ _ 22 23 rfl Try.underlying22 w.heap.size ((dg a).length + 1) ((dg a).length + 1) (List.replicate ((dg a).length + 1) 0) (dg a) A (dg a).length c w.heap.size w.heap.size w rfl rfl HB1.out (by simp) (HA.out.below hb1) rfl (by omega) hb1 (Nat.le_refl _) ?_; intro w2 hbk2 hs2 hb2; have HB2 := Lib.hid hbk2; have HS2 := Lib.hid hs2; clear hbk2 hs2)
      | (go_at_call 40; refine (addTo_any w.heap.size 0 ((dg a).length + 1) ((dg a).length + 1) (dg b).length d A' _ (dg b) _ (wf_sum a _) (wf_dg b) rfl (by omega) (by omega) (by simp) HB2.out (HB.out.below hb2)).mono ?_; intro e w3 had; obtain ⟨cr, X, rfl, hwx, hlx, hvx, hbx, hux⟩ := sum_of rfl (by omega) had; have HX := Lib.hid hbx; have HLX := Lib.hid hlx; have HVX := Lib.hid hvx; clear had hbx hlx hvx)
      | (go_at_call 41; refine (limited_any _ _ (HX.out.rd HX.out.lt) (Nat.le_refl _) hwx HLX.out (by omega) (by omega)).mono ?_; rintro e w4 ⟨v, rfl, h1, h2⟩))
    go_ret2
    rw [← HVX.out]
    exact ⟨v, rfl, h1, (hb2.trans (hux.below (Nat.le_refl _))).trans (h2.mono (by rw [hux.size]; exact hb2.size))⟩

set_option maxHeartbeats 400000 in
theorem add_bad {B : Nat} {A A' : Option Addr} {l m : List Nat} {w : World} (c d : Nat) (ha : Rd w B A l) (hb : Rd w B A' m) (hl : l.length ≤ 1000000) (hm : m.length ≤ 1000000) (hv : (vldB l && vldB m) = false) :
    Calls Try.prog 15 #[.slice A l.length c, .slice A' m.length d] w (Gives w 0 1) := by
  have HA := Lib.hid ha
  have HB := Lib.hid hb
  clear ha hb
  rcases hvl : vldB l with _ | _
  · have VA := Lib.hid hvl
    clear hvl hv
    go_enter Try.func15, Try.ntmps15
    go_wp2_with (first
      | (go_at_call 26; ((with_reducible refine (valid_no c _ HA.out rfl (by omega) VA.out).mono ?_); rintro e w' ⟨rfl, rfl⟩)))
    go_ret2
    exact ⟨_, rfl, Num.nil _, Below.refl _ _⟩
  · have VA := Lib.hid hvl
    rw [hvl, Bool.true_and] at hv
    have VB := Lib.hid hv
    clear hvl hv
    go_enter Try.func15, Try.ntmps15
    go_wp2_with (first
      | (go_at_call 26; ((with_reducible refine (valid_yes c _ HA.out rfl (by omega) VA.out).mono ?_); rintro e w' ⟨rfl, rfl⟩))
      | (go_at_call 26; ((with_reducible refine (valid_no d _ HB.out rfl (by omega) VB.out).mono ?_); rintro e w' ⟨rfl, rfl⟩)))
    go_ret2
    exact ⟨_, rfl, Num.nil _, Below.refl _ _⟩

end Go.Proofs.Ytogmgomcdhfolaa
