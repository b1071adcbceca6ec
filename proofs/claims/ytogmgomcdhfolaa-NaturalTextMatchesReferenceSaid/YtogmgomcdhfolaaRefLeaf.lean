/-
  The reference's Valid, limb, fit.
-/
import Derived.Test.YtogmgomcdhfolaaLawKit
namespace Go.Proofs.Ytogmgomcdhfolaa
open Go.RowKit Nt

set_option maxHeartbeats 400000 in
theorem rvalid_some (b o c n : Nat) (l : List Nat) (w : World) (hm : n ≤ 9223372036854775807) (hp : 0 < n)
    (h1 : w.cell? ⟨b, o + (n - 1), none⟩ = some (.int .u32 ((nth l (n - 1) : Nat) : Int))) :
    Calls Try.prog 27 #[.slice (some ⟨b, o, none⟩) n c] w fun e w' => e = .returned (.bool (decide (n ≤ 1024) && (nth l (n - 1) != 0))) ∧ w = w' := by
  have h0 : ((n : Int) == 0) = false := beq_eq_false_iff_ne.2 (by omega)
  by_cases hle : n ≤ 1024
  · go_enter Try.func27, Try.ntmps27
    go_wp2
    go_ret
    refine ⟨ret_bool ?_, rfl⟩
    rw [decide_eq_true hle, Bool.true_and, Bool.eq_iff_iff]
    simp only [bne_iff_ne, ne_eq]
    show ¬ (_ : Int) = 0 ↔ _
    omega
  · go_enter Try.func27, Try.ntmps27
    go_wp2
    go_ret
    exact ⟨ret_bool (by simp), rfl⟩

set_option maxHeartbeats 400000 in
theorem rvalid_none (A : Option Addr) (c : Nat) (w : World) :
    Calls Try.prog 27 #[.slice A 0 c] w fun e w' => e = .returned (.bool true) ∧ w = w' := by
  go_enter Try.func27, Try.ntmps27
  go_wp2
  go_ret
  exact ⟨rfl, rfl⟩

theorem rvalid_any {B : Nat} {A : Option Addr} {l : List Nat} {w : World} (c n : Nat) (hr : Rd w B A l) (hn : l.length = n) (hm : n ≤ 9223372036854775807) :
    Calls Try.prog 27 #[.slice A n c] w fun e w' => e = .returned (.bool (vldB l)) ∧ w = w' := by
  subst hn
  rcases Nat.eq_zero_or_pos l.length with h0 | h0
  · have e : vldB l = true := by unfold vldB; simp [h0]
    rw [h0, e]
    exact rvalid_none A c w
  · obtain ⟨b, o, rfl, _, hc⟩ := hr h0
    have e : vldB l = (decide (l.length ≤ 1024) && (nth l (l.length - 1) != 0)) := by
      unfold vldB
      have h1 : (l.length == 0) = false := beq_eq_false_iff_ne.2 (by omega)
      rw [h1, Bool.false_or]
    rw [e]
    exact rvalid_some b o c l.length l w hm h0 (hc _ (by omega))
theorem rvalid_yes {B : Nat} {A : Option Addr} {l : List Nat} {w : World} (c n : Nat) (hr : Rd w B A l) (hn : l.length = n) (hm : n ≤ 9223372036854775807) (hv : vldB l = true) :
    Calls Try.prog 27 #[.slice A n c] w fun e w' => e = .returned (.bool true) ∧ w = w' := by
  have := rvalid_any c n hr hn hm; rw [hv] at this; exact this
theorem rvalid_no {B : Nat} {A : Option Addr} {l : List Nat} {w : World} (c n : Nat) (hr : Rd w B A l) (hn : l.length = n) (hm : n ≤ 9223372036854775807) (hv : vldB l = false) :
    Calls Try.prog 27 #[.slice A n c] w fun e w' => e = .returned (.bool false) ∧ w = w' := by
  have := rvalid_any c n hr hn hm; rw [hv] at this; exact this

/-- limb gives a list's number at a place, 0 beyond its end -/
theorem rlimb_in (b o c n i x : Nat) (w : World) (hi : i < n) (hx : x < 4294967296) (hc : w.cell? ⟨b, o + i, none⟩ = some (.int .u32 (x : Int))) :
    Calls Try.prog 42 #[.slice (some ⟨b, o, none⟩) n c, .int .i64 (i : Int)] w fun e w' => e = .returned (.int .u64 (x : Int)) ∧ w = w' := by
  go_enter Try.func42, Try.ntmps42
  go_wp2
  go_ret
  exact ⟨rfl, rfl⟩
theorem rlimb_out (A : Option Addr) (c n i : Nat) (w : World) (hi : n ≤ i) :
    Calls Try.prog 42 #[.slice A n c, .int .i64 (i : Int)] w fun e w' => e = .returned (.int .u64 0) ∧ w = w' := by
  go_enter Try.func42, Try.ntmps42
  go_wp2
  go_ret
  exact ⟨rfl, rfl⟩
theorem nth_out {l : List Nat} {i : Nat} (h : l.length ≤ i) : nth l i = 0 := by
  unfold nth; simp [List.getD, List.getElem?_eq_none h]
theorem rlimb_any {B : Nat} {A : Option Addr} {l : List Nat} {w : World} (c n i x : Nat) (hr : Rd w B A l) (hw : Wf l) (hn : l.length = n) (hx : nth l i = x) :
    Calls Try.prog 42 #[.slice A n c, .int .i64 (i : Int)] w fun e w' => e = .returned (.int .u64 (x : Int)) ∧ w = w' := by
  subst hx
  subst hn
  rcases Nat.lt_or_ge i l.length with h | h
  · obtain ⟨b, o, rfl, _, hc⟩ := hr (by omega)
    exact rlimb_in b o c l.length i _ w h (nth_lt hw i) (hc i h)
  · rw [nth_out h]
    exact rlimb_out A c l.length i w h

set_option maxHeartbeats 400000 in
theorem rfit_any {A : Option Addr} {l : List Nat} {w : World} (c n : Nat) (hr : Rd w w.heap.size A l) (hw : Wf l) (hn : l.length = n) (hm : n ≤ 1000000) (hnc : n ≤ c) :
    Calls Try.prog 43 #[.slice A n c] w (Gives w (lim (val l)) (limE (val l))) := by
  have HR := Lib.hid hr
  have HW := Lib.hid hw
  have HN := Lib.hid hn
  have hl : (dg (val l)).length ≤ n := by
    have := dg_val_take hw
    have h2 := congrArg List.length this
    rw [List.length_take] at h2; omega
  clear hr hw hn
  by_cases hle : (dg (val l)).length ≤ 1024
  · rw [lim_of hle, limE_of hle]
    go_enter Try.func43, Try.ntmps43
    go_wp2_with (first
      | (go_at_call 53; refine (rtrim_any c n HR.out HW.out HN.out (by omega) hnc).mono ?_; rintro e w' ⟨rfl, rfl⟩))
    go_ret2
    exact ⟨_, rfl, ⟨A, c, rfl, by omega, HR.out.dg HW.out⟩, Below.refl _ _⟩
  · rw [lim_not hle, limE_not hle]
    go_enter Try.func43, Try.ntmps43
    go_wp2_with (first
      | (go_at_call 53; refine (rtrim_any c n HR.out HW.out HN.out (by omega) hnc).mono ?_; rintro e w' ⟨rfl, rfl⟩))
    go_ret2
    exact ⟨_, rfl, Num.nil _, Below.refl _ _⟩

end Go.Proofs.Ytogmgomcdhfolaa
