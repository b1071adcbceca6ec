/-
  The reference's valid and Check. (Seat of the great laws.)
-/
import Derived.Test.YtfkljlncnfeklaaGreatDoorPl
import Derived.Test.YtfkljlncnfeklaaGreatDoorPc
namespace Go.Proofs.YtfkljlncnfeklaaGreatDoor
open Go.RowKit Go.Shelf
set_option linter.unusedVariables false
set_option linter.unusedSimpArgs false
attribute [local go_sem ↓] Go.wp_at_zero Go.wp_at_succ

/-- what valid answers of a node's five numbers -/
def vlB (k lo hi a b : Int) (i : Nat) : Bool := rgP (k, lo, hi, a, b) && (decide (1 ≤ arP k) || decide (a = 0)) && (decide (arP k = 2) || decide (b = 0)) && ((decide (arP k = 0) || (decide (0 ≤ a) && decide (a < (i : Int)))) && (decide (arP k < 2) || (decide (0 ≤ b) && decide (b < (i : Int)))))
theorem vlB_iff {l : List Pn} {i : Nat} : vlB (pk l i) (plo l i) (phi l i) (pa l i) (pb l i) i = true ↔ okNP l i := by
  unfold vlB okNP plP opN
  rw [op_ar]
  simp only [Bool.and_eq_true]
theorem vl_no {l : List Pn} {k : Nat} (hk : k < l.length) (h : vlB (pk l k) (plo l k) (phi l k) (pa l k) (pb l k) k = false) : ¬ okP l := okP_node l hk (fun q => by rw [vlB_iff.2 q] at h; cases h)
theorem vl_op {k lo hi a b : Int} {i : Nat} (h : vlB k lo hi a b i = true) : (0 ≤ k ∧ k ≤ 4) ∧ (1 ≤ arP k → 0 ≤ a ∧ a < (i : Int)) ∧ (arP k = 2 → 0 ≤ b ∧ b < (i : Int)) := by
  unfold vlB rgP at h
  simp only [Bool.and_eq_true, Bool.or_eq_true, decide_eq_true_eq] at h
  obtain ⟨⟨⟨⟨⟨⟨⟨⟨q1, q2⟩, q3⟩, q4⟩, q5⟩, q6⟩, q7⟩, q8⟩, q9, q10⟩ := h
  refine ⟨⟨q1, q2⟩, fun q => ?_, fun q => ?_⟩
  · rcases q9 with r | r
    · omega
    · exact r
  · rcases q10 with r | r
    · omega
    · exact r
theorem roP_ar {k : Int} (h : 0 ≤ k ∧ k ≤ 4) : roP k = (((arP k : Nat) : Int), true) := by
  rcases (show k = 0 ∨ k = 1 ∨ k = 2 ∨ k = 3 ∨ k = 4 by omega) with rfl | rfl | rfl | rfl | rfl <;> rfl



-- VALID
set_option maxHeartbeats 4000000 in
set_option maxRecDepth 100000 in
theorem rvalid_any (A : Option Addr) (m c : Nat) (l : List Pn) (k : Nat) (w : World) (hl : Hid (l.length = m)) (hr : Hid (Rp w w.heap.size A l)) (hk : k < m) (hm : m ≤ 1000000) :
    Calls Tryz.prog 39 #[.slice A m c, .int .i64 (k : Int)] w fun e w' => e = .returned (.bool (vlB (pk l k) (plo l k) (phi l k) (pa l k) (pb l k) k)) ∧ Below w.heap.size w w' := by
  obtain ⟨b, o, e, hb, hc⟩ := hr.out (by rw [hl.out]; omega)
  subst e
  obtain ⟨d0, d1, d2, d3, d4⟩ := hc k (by rw [hl.out]; exact hk)
  have i1 : (0 : Int) ≤ (k : Int) := by omega
  have i2 : (k : Int) < (m : Int) := by omega
  clear hc hr
  generalize pk l k = K at *
  generalize plo l k = LO at *
  generalize phi l k = HI at *
  generalize pa l k = PA at *
  generalize pb l k = PB at *
  have HB := Lib.hid ((Below.refl w.heap.size w).alloc (Nat.le_refl _) (.cells #[.int .i64 K, .int .i64 LO, .int .i64 HI, .int .i64 PA, .int .i64 PB] 42))
  have HOP : Hid (∀ W : World, Calls Tryz.prog 40 #[.int .i64 K] W fun e w' => e = .returned (.tuple #[.int .i64 (roP K).1, .bool (roP K).2]) ∧ w' = W) := Lib.hid (fun W => roperands_any K W)
  by_cases hbad : K < 0 ∨ 4 < K
  · have hro : roP K = (0, false) := by unfold roP; rw [if_neg (by omega), if_neg (by omega), if_neg (by omega)]
    rw [hro] at HOP
    have e : vlB K LO HI PA PB k = false := by simp [vlB, rgP]; omega
    rw [e]
    clear e hbad hro
    go_enter Tryz.func39, Tryz.ntmps39
    go_wp2_with (go_at_call 40; with_reducible refine (HOP.out _).mono ?_; rintro e w2 ⟨rfl, hw⟩; subst hw)
    go_ret
    exact ⟨rfl, HB.out⟩
  rcases (show K = 0 ∨ K = 1 ∨ K = 2 ∨ K = 3 ∨ K = 4 by omega) with rfl | rfl | rfl | rfl | rfl
  · have HOQ : Hid (∀ W : World, Calls Tryz.prog 40 #[.int .i64 0] W fun e w' => e = .returned (.tuple #[.int .i64 0, .bool true]) ∧ w' = W) := HOP
    clear HOP
    by_cases z1 : LO = 0
    rotate_left
    · have z1b : (LO != 0) = true := bne_iff_ne.2 z1
      have e : vlB 0 LO HI PA PB k = false := by simp [vlB, rgP, arP]; try omega
      rw [e]
      clear e
      go_enter Tryz.func39, Tryz.ntmps39
      go_wp2_with (go_at_call 40; with_reducible refine (HOQ.out _).mono ?_; rintro e w2 ⟨rfl, hw⟩; subst hw)
      go_ret
      exact ⟨rfl, HB.out⟩
    subst z1
    by_cases z2 : HI = 0
    rotate_left
    · have z2b : (HI != 0) = true := bne_iff_ne.2 z2
      have e : vlB 0 0 HI PA PB k = false := by simp [vlB, rgP, arP]; try omega
      rw [e]
      clear e
      go_enter Tryz.func39, Tryz.ntmps39
      go_wp2_with (go_at_call 40; with_reducible refine (HOQ.out _).mono ?_; rintro e w2 ⟨rfl, hw⟩; subst hw)
      go_ret
      exact ⟨rfl, HB.out⟩
    subst z2
    by_cases z3 : PA = 0
    rotate_left
    · have z3b : (PA != 0) = true := bne_iff_ne.2 z3
      have e : vlB 0 0 0 PA PB k = false := by simp [vlB, rgP, arP]; try omega
      rw [e]
      clear e
      go_enter Tryz.func39, Tryz.ntmps39
      go_wp2_with (go_at_call 40; with_reducible refine (HOQ.out _).mono ?_; rintro e w2 ⟨rfl, hw⟩; subst hw)
      go_ret
      exact ⟨rfl, HB.out⟩
    subst z3
    by_cases z4 : PB = 0
    rotate_left
    · have z4b : (PB != 0) = true := bne_iff_ne.2 z4
      have e : vlB 0 0 0 0 PB k = false := by simp [vlB, rgP, arP]; try omega
      rw [e]
      clear e
      go_enter Tryz.func39, Tryz.ntmps39
      go_wp2_with (go_at_call 40; with_reducible refine (HOQ.out _).mono ?_; rintro e w2 ⟨rfl, hw⟩; subst hw)
      go_ret
      exact ⟨rfl, HB.out⟩
    subst z4
    have e : vlB 0 0 0 0 0 k = true := by simp [vlB, rgP, arP]; try omega
    rw [e]
    clear e
    go_enter Tryz.func39, Tryz.ntmps39
    go_wp2_with (go_at_call 40; with_reducible refine (HOQ.out _).mono ?_; rintro e w2 ⟨rfl, hw⟩; subst hw)
    go_ret
    exact ⟨rfl, HB.out⟩
  · have HOQ : Hid (∀ W : World, Calls Tryz.prog 40 #[.int .i64 1] W fun e w' => e = .returned (.tuple #[.int .i64 0, .bool true]) ∧ w' = W) := HOP
    clear HOP
    by_cases c1 : LO < 0
    · have c1b : decide (LO < 0) = true := decide_eq_true (by assumption)
      have e : vlB 1 LO HI PA PB k = false := by simp [vlB, rgP, arP]; try omega
      rw [e]
      clear e
      go_enter Tryz.func39, Tryz.ntmps39
      go_wp2_with (go_at_call 40; with_reducible refine (HOQ.out _).mono ?_; rintro e w2 ⟨rfl, hw⟩; subst hw)
      go_ret
      exact ⟨rfl, HB.out⟩
    have c1b : decide (LO < 0) = false := decide_eq_false (by assumption)
    by_cases c2 : HI < LO
    · have c2b : decide (HI < LO) = true := decide_eq_true (by assumption)
      have e : vlB 1 LO HI PA PB k = false := by simp [vlB, rgP, arP]; try omega
      rw [e]
      clear e
      go_enter Tryz.func39, Tryz.ntmps39
      go_wp2_with (go_at_call 40; with_reducible refine (HOQ.out _).mono ?_; rintro e w2 ⟨rfl, hw⟩; subst hw)
      go_ret
      exact ⟨rfl, HB.out⟩
    have c2b : decide (HI < LO) = false := decide_eq_false (by assumption)
    by_cases c3 : 255 < HI
    · have c3b : decide ((255 : Int) < HI) = true := decide_eq_true (by assumption)
      have e : vlB 1 LO HI PA PB k = false := by simp [vlB, rgP, arP]; try omega
      rw [e]
      clear e
      go_enter Tryz.func39, Tryz.ntmps39
      go_wp2_with (go_at_call 40; with_reducible refine (HOQ.out _).mono ?_; rintro e w2 ⟨rfl, hw⟩; subst hw)
      go_ret
      exact ⟨rfl, HB.out⟩
    have c3b : decide ((255 : Int) < HI) = false := decide_eq_false (by assumption)
    by_cases z3 : PA = 0
    rotate_left
    · have z3b : (PA != 0) = true := bne_iff_ne.2 z3
      have e : vlB 1 LO HI PA PB k = false := by simp [vlB, rgP, arP]; try omega
      rw [e]
      clear e
      go_enter Tryz.func39, Tryz.ntmps39
      go_wp2_with (go_at_call 40; with_reducible refine (HOQ.out _).mono ?_; rintro e w2 ⟨rfl, hw⟩; subst hw)
      go_ret
      exact ⟨rfl, HB.out⟩
    subst z3
    by_cases z4 : PB = 0
    rotate_left
    · have z4b : (PB != 0) = true := bne_iff_ne.2 z4
      have e : vlB 1 LO HI 0 PB k = false := by simp [vlB, rgP, arP]; try omega
      rw [e]
      clear e
      go_enter Tryz.func39, Tryz.ntmps39
      go_wp2_with (go_at_call 40; with_reducible refine (HOQ.out _).mono ?_; rintro e w2 ⟨rfl, hw⟩; subst hw)
      go_ret
      exact ⟨rfl, HB.out⟩
    subst z4
    have e : vlB 1 LO HI 0 0 k = true := by simp [vlB, rgP, arP]; try omega
    rw [e]
    clear e
    go_enter Tryz.func39, Tryz.ntmps39
    go_wp2_with (go_at_call 40; with_reducible refine (HOQ.out _).mono ?_; rintro e w2 ⟨rfl, hw⟩; subst hw)
    go_ret
    exact ⟨rfl, HB.out⟩
  · have HOQ : Hid (∀ W : World, Calls Tryz.prog 40 #[.int .i64 2] W fun e w' => e = .returned (.tuple #[.int .i64 2, .bool true]) ∧ w' = W) := HOP
    clear HOP
    by_cases z1 : LO = 0
    rotate_left
    · have z1b : (LO != 0) = true := bne_iff_ne.2 z1
      have e : vlB 2 LO HI PA PB k = false := by simp [vlB, rgP, arP]; try omega
      rw [e]
      clear e
      go_enter Tryz.func39, Tryz.ntmps39
      go_wp2_with (go_at_call 40; with_reducible refine (HOQ.out _).mono ?_; rintro e w2 ⟨rfl, hw⟩; subst hw)
      go_ret
      exact ⟨rfl, HB.out⟩
    subst z1
    by_cases z2 : HI = 0
    rotate_left
    · have z2b : (HI != 0) = true := bne_iff_ne.2 z2
      have e : vlB 2 0 HI PA PB k = false := by simp [vlB, rgP, arP]; try omega
      rw [e]
      clear e
      go_enter Tryz.func39, Tryz.ntmps39
      go_wp2_with (go_at_call 40; with_reducible refine (HOQ.out _).mono ?_; rintro e w2 ⟨rfl, hw⟩; subst hw)
      go_ret
      exact ⟨rfl, HB.out⟩
    subst z2
    by_cases q1 : 0 ≤ PA
    · have q1b : decide (0 ≤ PA) = true := decide_eq_true (by assumption)
      by_cases q2 : PA < (k : Int)
      · have q2b : decide (PA < (k : Int)) = true := decide_eq_true (by assumption)
        by_cases r1 : 0 ≤ PB
        · have r1b : decide (0 ≤ PB) = true := decide_eq_true (by assumption)
          by_cases r2 : PB < (k : Int)
          · have r2b : decide (PB < (k : Int)) = true := decide_eq_true (by assumption)
            have e : vlB 2 0 0 PA PB k = true := by simp [vlB, rgP, arP]; try omega
            rw [e]
            clear e
            go_enter Tryz.func39, Tryz.ntmps39
            go_wp2_with (go_at_call 40; with_reducible refine (HOQ.out _).mono ?_; rintro e w2 ⟨rfl, hw⟩; subst hw)
            go_ret
            exact ⟨rfl, HB.out⟩
          have r2b : decide (PB < (k : Int)) = false := decide_eq_false (by assumption)
          have e : vlB 2 0 0 PA PB k = false := by simp [vlB, rgP, arP]; try omega
          rw [e]
          clear e
          go_enter Tryz.func39, Tryz.ntmps39
          go_wp2_with (go_at_call 40; with_reducible refine (HOQ.out _).mono ?_; rintro e w2 ⟨rfl, hw⟩; subst hw)
          go_ret
          exact ⟨rfl, HB.out⟩
        have r1b : decide (0 ≤ PB) = false := decide_eq_false (by assumption)
        have e : vlB 2 0 0 PA PB k = false := by simp [vlB, rgP, arP]; try omega
        rw [e]
        clear e
        go_enter Tryz.func39, Tryz.ntmps39
        go_wp2_with (go_at_call 40; with_reducible refine (HOQ.out _).mono ?_; rintro e w2 ⟨rfl, hw⟩; subst hw)
        go_ret
        exact ⟨rfl, HB.out⟩
      have q2b : decide (PA < (k : Int)) = false := decide_eq_false (by assumption)
      have e : vlB 2 0 0 PA PB k = false := by simp [vlB, rgP, arP]; try omega
      rw [e]
      clear e
      go_enter Tryz.func39, Tryz.ntmps39
      go_wp2_with (go_at_call 40; with_reducible refine (HOQ.out _).mono ?_; rintro e w2 ⟨rfl, hw⟩; subst hw)
      go_ret
      exact ⟨rfl, HB.out⟩
    have q1b : decide (0 ≤ PA) = false := decide_eq_false (by assumption)
    have e : vlB 2 0 0 PA PB k = false := by simp [vlB, rgP, arP]; try omega
    rw [e]
    clear e
    go_enter Tryz.func39, Tryz.ntmps39
    go_wp2_with (go_at_call 40; with_reducible refine (HOQ.out _).mono ?_; rintro e w2 ⟨rfl, hw⟩; subst hw)
    go_ret
    exact ⟨rfl, HB.out⟩
  · have HOQ : Hid (∀ W : World, Calls Tryz.prog 40 #[.int .i64 3] W fun e w' => e = .returned (.tuple #[.int .i64 2, .bool true]) ∧ w' = W) := HOP
    clear HOP
    by_cases z1 : LO = 0
    rotate_left
    · have z1b : (LO != 0) = true := bne_iff_ne.2 z1
      have e : vlB 3 LO HI PA PB k = false := by simp [vlB, rgP, arP]; try omega
      rw [e]
      clear e
      go_enter Tryz.func39, Tryz.ntmps39
      go_wp2_with (go_at_call 40; with_reducible refine (HOQ.out _).mono ?_; rintro e w2 ⟨rfl, hw⟩; subst hw)
      go_ret
      exact ⟨rfl, HB.out⟩
    subst z1
    by_cases z2 : HI = 0
    rotate_left
    · have z2b : (HI != 0) = true := bne_iff_ne.2 z2
      have e : vlB 3 0 HI PA PB k = false := by simp [vlB, rgP, arP]; try omega
      rw [e]
      clear e
      go_enter Tryz.func39, Tryz.ntmps39
      go_wp2_with (go_at_call 40; with_reducible refine (HOQ.out _).mono ?_; rintro e w2 ⟨rfl, hw⟩; subst hw)
      go_ret
      exact ⟨rfl, HB.out⟩
    subst z2
    by_cases q1 : 0 ≤ PA
    · have q1b : decide (0 ≤ PA) = true := decide_eq_true (by assumption)
      by_cases q2 : PA < (k : Int)
      · have q2b : decide (PA < (k : Int)) = true := decide_eq_true (by assumption)
        by_cases r1 : 0 ≤ PB
        · have r1b : decide (0 ≤ PB) = true := decide_eq_true (by assumption)
          by_cases r2 : PB < (k : Int)
          · have r2b : decide (PB < (k : Int)) = true := decide_eq_true (by assumption)
            have e : vlB 3 0 0 PA PB k = true := by simp [vlB, rgP, arP]; try omega
            rw [e]
            clear e
            go_enter Tryz.func39, Tryz.ntmps39
            go_wp2_with (go_at_call 40; with_reducible refine (HOQ.out _).mono ?_; rintro e w2 ⟨rfl, hw⟩; subst hw)
            go_ret
            exact ⟨rfl, HB.out⟩
          have r2b : decide (PB < (k : Int)) = false := decide_eq_false (by assumption)
          have e : vlB 3 0 0 PA PB k = false := by simp [vlB, rgP, arP]; try omega
          rw [e]
          clear e
          go_enter Tryz.func39, Tryz.ntmps39
          go_wp2_with (go_at_call 40; with_reducible refine (HOQ.out _).mono ?_; rintro e w2 ⟨rfl, hw⟩; subst hw)
          go_ret
          exact ⟨rfl, HB.out⟩
        have r1b : decide (0 ≤ PB) = false := decide_eq_false (by assumption)
        have e : vlB 3 0 0 PA PB k = false := by simp [vlB, rgP, arP]; try omega
        rw [e]
        clear e
        go_enter Tryz.func39, Tryz.ntmps39
        go_wp2_with (go_at_call 40; with_reducible refine (HOQ.out _).mono ?_; rintro e w2 ⟨rfl, hw⟩; subst hw)
        go_ret
        exact ⟨rfl, HB.out⟩
      have q2b : decide (PA < (k : Int)) = false := decide_eq_false (by assumption)
      have e : vlB 3 0 0 PA PB k = false := by simp [vlB, rgP, arP]; try omega
      rw [e]
      clear e
      go_enter Tryz.func39, Tryz.ntmps39
      go_wp2_with (go_at_call 40; with_reducible refine (HOQ.out _).mono ?_; rintro e w2 ⟨rfl, hw⟩; subst hw)
      go_ret
      exact ⟨rfl, HB.out⟩
    have q1b : decide (0 ≤ PA) = false := decide_eq_false (by assumption)
    have e : vlB 3 0 0 PA PB k = false := by simp [vlB, rgP, arP]; try omega
    rw [e]
    clear e
    go_enter Tryz.func39, Tryz.ntmps39
    go_wp2_with (go_at_call 40; with_reducible refine (HOQ.out _).mono ?_; rintro e w2 ⟨rfl, hw⟩; subst hw)
    go_ret
    exact ⟨rfl, HB.out⟩
  · have HOQ : Hid (∀ W : World, Calls Tryz.prog 40 #[.int .i64 4] W fun e w' => e = .returned (.tuple #[.int .i64 1, .bool true]) ∧ w' = W) := HOP
    clear HOP
    by_cases z1 : LO = 0
    rotate_left
    · have z1b : (LO != 0) = true := bne_iff_ne.2 z1
      have e : vlB 4 LO HI PA PB k = false := by simp [vlB, rgP, arP]; try omega
      rw [e]
      clear e
      go_enter Tryz.func39, Tryz.ntmps39
      go_wp2_with (go_at_call 40; with_reducible refine (HOQ.out _).mono ?_; rintro e w2 ⟨rfl, hw⟩; subst hw)
      go_ret
      exact ⟨rfl, HB.out⟩
    subst z1
    by_cases z2 : HI = 0
    rotate_left
    · have z2b : (HI != 0) = true := bne_iff_ne.2 z2
      have e : vlB 4 0 HI PA PB k = false := by simp [vlB, rgP, arP]; try omega
      rw [e]
      clear e
      go_enter Tryz.func39, Tryz.ntmps39
      go_wp2_with (go_at_call 40; with_reducible refine (HOQ.out _).mono ?_; rintro e w2 ⟨rfl, hw⟩; subst hw)
      go_ret
      exact ⟨rfl, HB.out⟩
    subst z2
    by_cases z4 : PB = 0
    rotate_left
    · have z4b : (PB != 0) = true := bne_iff_ne.2 z4
      have e : vlB 4 0 0 PA PB k = false := by simp [vlB, rgP, arP]; try omega
      rw [e]
      clear e
      go_enter Tryz.func39, Tryz.ntmps39
      go_wp2_with (go_at_call 40; with_reducible refine (HOQ.out _).mono ?_; rintro e w2 ⟨rfl, hw⟩; subst hw)
      go_ret
      exact ⟨rfl, HB.out⟩
    subst z4
    by_cases q1 : 0 ≤ PA
    · have q1b : decide (0 ≤ PA) = true := decide_eq_true (by assumption)
      by_cases q2 : PA < (k : Int)
      · have q2b : decide (PA < (k : Int)) = true := decide_eq_true (by assumption)
        have e : vlB 4 0 0 PA 0 k = true := by simp [vlB, rgP, arP]; try omega
        rw [e]
        clear e
        go_enter Tryz.func39, Tryz.ntmps39
        go_wp2_with (go_at_call 40; with_reducible refine (HOQ.out _).mono ?_; rintro e w2 ⟨rfl, hw⟩; subst hw)
        go_ret
        exact ⟨rfl, HB.out⟩
      have q2b : decide (PA < (k : Int)) = false := decide_eq_false (by assumption)
      have e : vlB 4 0 0 PA 0 k = false := by simp [vlB, rgP, arP]; try omega
      rw [e]
      clear e
      go_enter Tryz.func39, Tryz.ntmps39
      go_wp2_with (go_at_call 40; with_reducible refine (HOQ.out _).mono ?_; rintro e w2 ⟨rfl, hw⟩; subst hw)
      go_ret
      exact ⟨rfl, HB.out⟩
    have q1b : decide (0 ≤ PA) = false := decide_eq_false (by assumption)
    have e : vlB 4 0 0 PA 0 k = false := by simp [vlB, rgP, arP]; try omega
    rw [e]
    clear e
    go_enter Tryz.func39, Tryz.ntmps39
    go_wp2_with (go_at_call 40; with_reducible refine (HOQ.out _).mono ?_; rintro e w2 ⟨rfl, hw⟩; subst hw)
    go_ret
    exact ⟨rfl, HB.out⟩
-- VALEND

end Go.Proofs.YtfkljlncnfeklaaGreatDoor
