/-
  The reference's Compare.
-/
import Derived.Test.YtogmgomcdhfolaaRefLong
namespace Go.Proofs.Ytogmgomcdhfolaa
open Go.RowKit Nt

/-- the numbers from k on are equal, 0 beyond the end -/
def Eqz (l m : List Nat) (k : Nat) : Prop := ∀ j, k ≤ j → nth l j = nth m j
theorem eqz_take {l m : List Nat} (h : Eqz l m 0) (n : Nat) : val (l.take n) = val (m.take n) := by
  induction n with
  | zero => simp
  | succ n ih => rw [take_step, take_step, ih, h n (Nat.zero_le _)]
theorem eqz_lt {l m : List Nat} (hl : Wf l) {k : Nat} (h : nth l k < nth m k) (he : Eqz l m (k + 1)) (n : Nat) : val (l.take (k + 1 + n)) < val (m.take (k + 1 + n)) := by
  induction n with
  | zero =>
    rw [Nat.add_zero, take_step, take_step]
    have h1 : val (l.take k) < 4294967296 ^ k := Nat.lt_of_lt_of_le (val_lt (hl.take k)) (Nat.pow_le_pow_right (by omega) (List.length_take_le _ _))
    have h2 : 4294967296 ^ k * (nth l k + 1) ≤ 4294967296 ^ k * nth m k := Nat.mul_le_mul_left _ h
    rw [Nat.mul_add, Nat.mul_one] at h2
    omega
  | succ n ih =>
    rw [← Nat.add_assoc, take_step, take_step, he (k + 1 + n) (by omega)]
    omega
theorem eqz_all {a b : Nat} (h : Eqz (dg a) (dg b) 0) : a = b := by
  have := eqz_take h ((dg a).length + (dg b).length)
  rwa [List.take_of_length_le (by omega), List.take_of_length_le (by omega), val_dg, val_dg] at this
theorem eqz_less {a b k : Nat} (h : nth (dg a) k < nth (dg b) k) (he : Eqz (dg a) (dg b) (k + 1)) : a < b := by
  have := eqz_lt (wf_dg a) h he ((dg a).length + (dg b).length)
  rwa [List.take_of_length_le (by omega), List.take_of_length_le (by omega), val_dg, val_dg] at this
theorem Eqz.symm {l m : List Nat} {k : Nat} (h : Eqz l m k) : Eqz m l k := fun j hj => (h j hj).symm

set_option maxHeartbeats 2000000 in
theorem rcompare_lt (a b c d n m : Nat) (A A' : Option Addr) (w : World) (ha : Hid (Rd w w.heap.size A (dg a))) (hb : Hid (Rd w w.heap.size A' (dg b))) (la : Hid ((dg a).length = n)) (lb : Hid ((dg b).length = m)) (hn : n ≤ 1024) (hm : m ≤ 1024) (hM : n < m) :
    Calls Try.prog 29 #[.slice A n c, .slice A' m d] w fun e w' => e = .returned (.int .i64 (cmpN a b)) ∧ Qt w w' := by
  have VA := Lib.hid (vldB_dg (N := a) (by rw [la.out]; exact hn))
  have VB := Lib.hid (vldB_dg (N := b) (by rw [lb.out]; exact hm))
  go_enter Try.func29, Try.ntmps29
  go_wp2_with (first
    | (go_at_call 27; ((with_reducible refine (rvalid_yes c n ha.out la.out (by omega) VA.out).mono ?_); rintro e w' ⟨rfl, rfl⟩))
    | (go_at_call 27; ((with_reducible refine (rvalid_yes d m hb.out lb.out (by omega) VB.out).mono ?_); rintro e w' ⟨rfl, rfl⟩)))
  go_loopw [5] (fun i wr => ∃ (k : Nat) (z : Int), k ≤ m ∧ z = (k : Int) - 1 ∧ i = .int .i64 z ∧ Hid (Eqz (dg a) (dg b) k) ∧ Hid (Qt w wr)) (fun i _ => (intOf i + 1).toNat)
  case atStart => exact ⟨m, _, Nat.le_refl _, rfl, rfl, fun j hj => by rw [nth_out (by rw [la.out]; omega), nth_out (by rw [lb.out]; omega)], Qt.refl _⟩
  case round =>
    obtain ⟨k, z, hk, hz, rfl, heq, hqt⟩ := hrel
    by_cases hlt : 0 < k
    · obtain ⟨t, ht⟩ : ∃ t, t = k - 1 := ⟨_, rfl⟩
      obtain rfl : z = (t : Int) := by omega
      obtain ⟨x, hx⟩ : ∃ x, nth (dg a) t = x := ⟨_, rfl⟩
      obtain ⟨y, hy⟩ : ∃ y, nth (dg b) t = y := ⟨_, rfl⟩
      have HX := Lib.hid hx
      have HY := Lib.hid hy
      have HE : Hid (Eqz (dg a) (dg b) (t + 1)) := show Eqz _ _ _ by rw [ht, Nat.sub_add_cancel hlt]; exact heq.out
      have ht1 : t < m := by omega
      clear hx hy ht hz
      have RA : Hid (Rd wr w.heap.size A (dg a)) := ha.out.below (hqt.out.below _)
      have RB : Hid (Rd wr w.heap.size A' (dg b)) := hb.out.below (hqt.out.below _)
      have WA : Hid (Wf (dg a)) := wf_dg a
      have WB : Hid (Wf (dg b)) := wf_dg b
      rcases Nat.lt_trichotomy x y with h | h | h
      · have HR : Hid (a < b) := eqz_less (k := t) (by rw [HX.out, HY.out]; exact h) HE.out
        go_wp2_with (first
          | (go_at_call 42; ((with_reducible refine (rlimb_any c n t x RA.out WA.out la.out HX.out).mono ?_); rintro e w' ⟨rfl, rfl⟩))
          | (go_at_call 42; ((with_reducible refine (rlimb_any d m t y RB.out WB.out lb.out HY.out).mono ?_); rintro e w' ⟨rfl, rfl⟩)))
        go_ret
        exact ⟨ret_i (cmpN_lt HR.out).symm, hqt.out⟩
      · have HEQ := Lib.hid h
        have h2 : ¬ x < y := by omega
        have h3 : ¬ y < x := by omega
        clear h
        have HE2 : Hid (Eqz (dg a) (dg b) t) := fun j hj => by
          rcases Nat.lt_or_ge t j with h3 | h3
          · exact HE.out j h3
          · rw [show j = t by omega, HX.out, HY.out]; exact HEQ.out
        go_wp2_with (first
          | (go_at_call 42; ((with_reducible refine (rlimb_any c n t x RA.out WA.out la.out HX.out).mono ?_); rintro e w' ⟨rfl, rfl⟩))
          | (go_at_call 42; ((with_reducible refine (rlimb_any d m t y RB.out WB.out lb.out HY.out).mono ?_); rintro e w' ⟨rfl, rfl⟩)))
        go_roundw
        case rel => exact ⟨t, (t : Int) - 1, by omega, rfl, by go_num, HE2, hqt⟩
        case measure => simp [intOf] <;> omega
      · have HR : Hid (b < a) := eqz_less (k := t) (by rw [HX.out, HY.out]; exact h) HE.out.symm
        have h2 : ¬ x < y := by omega
        go_wp2_with (first
          | (go_at_call 42; ((with_reducible refine (rlimb_any c n t x RA.out WA.out la.out HX.out).mono ?_); rintro e w' ⟨rfl, rfl⟩))
          | (go_at_call 42; ((with_reducible refine (rlimb_any d m t y RB.out WB.out lb.out HY.out).mono ?_); rintro e w' ⟨rfl, rfl⟩)))
        go_ret
        exact ⟨ret_i (cmpN_gt HR.out).symm, hqt.out⟩
    · obtain rfl : k = 0 := by omega
      obtain rfl : z = -1 := by omega
      clear hlt hz
      go_wp2_with fail
      go_ret
      have := eqz_all heq.out
      subst this
      exact ⟨ret_i (cmpN_eq _).symm, hqt.out⟩

set_option maxHeartbeats 2000000 in
theorem rcompare_ge (a b c d n m : Nat) (A A' : Option Addr) (w : World) (ha : Hid (Rd w w.heap.size A (dg a))) (hb : Hid (Rd w w.heap.size A' (dg b))) (la : Hid ((dg a).length = n)) (lb : Hid ((dg b).length = m)) (hn : n ≤ 1024) (hm : m ≤ 1024) (hM : m ≤ n) :
    Calls Try.prog 29 #[.slice A n c, .slice A' m d] w fun e w' => e = .returned (.int .i64 (cmpN a b)) ∧ Qt w w' := by
  have VA := Lib.hid (vldB_dg (N := a) (by rw [la.out]; exact hn))
  have VB := Lib.hid (vldB_dg (N := b) (by rw [lb.out]; exact hm))
  go_enter Try.func29, Try.ntmps29
  go_wp2_with (first
    | (go_at_call 27; ((with_reducible refine (rvalid_yes c n ha.out la.out (by omega) VA.out).mono ?_); rintro e w' ⟨rfl, rfl⟩))
    | (go_at_call 27; ((with_reducible refine (rvalid_yes d m hb.out lb.out (by omega) VB.out).mono ?_); rintro e w' ⟨rfl, rfl⟩)))
  go_loopw [5] (fun i wr => ∃ (k : Nat) (z : Int), k ≤ n ∧ z = (k : Int) - 1 ∧ i = .int .i64 z ∧ Hid (Eqz (dg a) (dg b) k) ∧ Hid (Qt w wr)) (fun i _ => (intOf i + 1).toNat)
  case atStart => exact ⟨n, _, Nat.le_refl _, rfl, rfl, fun j hj => by rw [nth_out (by rw [la.out]; omega), nth_out (by rw [lb.out]; omega)], Qt.refl _⟩
  case round =>
    obtain ⟨k, z, hk, hz, rfl, heq, hqt⟩ := hrel
    by_cases hlt : 0 < k
    · obtain ⟨t, ht⟩ : ∃ t, t = k - 1 := ⟨_, rfl⟩
      obtain rfl : z = (t : Int) := by omega
      obtain ⟨x, hx⟩ : ∃ x, nth (dg a) t = x := ⟨_, rfl⟩
      obtain ⟨y, hy⟩ : ∃ y, nth (dg b) t = y := ⟨_, rfl⟩
      have HX := Lib.hid hx
      have HY := Lib.hid hy
      have HE : Hid (Eqz (dg a) (dg b) (t + 1)) := show Eqz _ _ _ by rw [ht, Nat.sub_add_cancel hlt]; exact heq.out
      have ht1 : t < n := by omega
      clear hx hy ht hz
      have RA : Hid (Rd wr w.heap.size A (dg a)) := ha.out.below (hqt.out.below _)
      have RB : Hid (Rd wr w.heap.size A' (dg b)) := hb.out.below (hqt.out.below _)
      have WA : Hid (Wf (dg a)) := wf_dg a
      have WB : Hid (Wf (dg b)) := wf_dg b
      rcases Nat.lt_trichotomy x y with h | h | h
      · have HR : Hid (a < b) := eqz_less (k := t) (by rw [HX.out, HY.out]; exact h) HE.out
        go_wp2_with (first
          | (go_at_call 42; ((with_reducible refine (rlimb_any c n t x RA.out WA.out la.out HX.out).mono ?_); rintro e w' ⟨rfl, rfl⟩))
          | (go_at_call 42; ((with_reducible refine (rlimb_any d m t y RB.out WB.out lb.out HY.out).mono ?_); rintro e w' ⟨rfl, rfl⟩)))
        go_ret
        exact ⟨ret_i (cmpN_lt HR.out).symm, hqt.out⟩
      · have HEQ := Lib.hid h
        have h2 : ¬ x < y := by omega
        have h3 : ¬ y < x := by omega
        clear h
        have HE2 : Hid (Eqz (dg a) (dg b) t) := fun j hj => by
          rcases Nat.lt_or_ge t j with h3 | h3
          · exact HE.out j h3
          · rw [show j = t by omega, HX.out, HY.out]; exact HEQ.out
        go_wp2_with (first
          | (go_at_call 42; ((with_reducible refine (rlimb_any c n t x RA.out WA.out la.out HX.out).mono ?_); rintro e w' ⟨rfl, rfl⟩))
          | (go_at_call 42; ((with_reducible refine (rlimb_any d m t y RB.out WB.out lb.out HY.out).mono ?_); rintro e w' ⟨rfl, rfl⟩)))
        go_roundw
        case rel => exact ⟨t, (t : Int) - 1, by omega, rfl, by go_num, HE2, hqt⟩
        case measure => simp [intOf] <;> omega
      · have HR : Hid (b < a) := eqz_less (k := t) (by rw [HX.out, HY.out]; exact h) HE.out.symm
        have h2 : ¬ x < y := by omega
        go_wp2_with (first
          | (go_at_call 42; ((with_reducible refine (rlimb_any c n t x RA.out WA.out la.out HX.out).mono ?_); rintro e w' ⟨rfl, rfl⟩))
          | (go_at_call 42; ((with_reducible refine (rlimb_any d m t y RB.out WB.out lb.out HY.out).mono ?_); rintro e w' ⟨rfl, rfl⟩)))
        go_ret
        exact ⟨ret_i (cmpN_gt HR.out).symm, hqt.out⟩
    · obtain rfl : k = 0 := by omega
      obtain rfl : z = -1 := by omega
      clear hlt hz
      go_wp2_with fail
      go_ret
      have := eqz_all heq.out
      subst this
      exact ⟨ret_i (cmpN_eq _).symm, hqt.out⟩

theorem rcompare_ok {a b : Nat} {A A' : Option Addr} {w : World} (c d : Nat) (ha : Rd w w.heap.size A (dg a)) (hb : Rd w w.heap.size A' (dg b)) (la : (dg a).length ≤ 1024) (lb : (dg b).length ≤ 1024) :
    Calls Try.prog 29 #[.slice A (dg a).length c, .slice A' (dg b).length d] w fun e w' => e = .returned (.int .i64 (cmpN a b)) ∧ Qt w w' := by
  rcases Nat.lt_or_ge (dg a).length (dg b).length with h | h
  · exact rcompare_lt a b c d _ _ A A' w ha hb rfl rfl la lb h
  · exact rcompare_ge a b c d _ _ A A' w ha hb rfl rfl la lb h

end Go.Proofs.Ytogmgomcdhfolaa
