/-
  natural.canonical, natural.limited, natural.Add: numbers in new memory.
-/
import Derived.Test.YtogmgomcdhfolaaAddTo
namespace Go.Proofs.Ytogmgomcdhfolaa
open Go.RowKit Nt

/-- the value v reads as the digits of N -/
def Num (w : World) (v : Value) (N : Nat) : Prop := ∃ A c, v = .slice A (dg N).length c ∧ (dg N).length ≤ c ∧ Rd w w.heap.size A (dg N)

theorem Num.below {w w' : World} {v : Value} {N : Nat} (h : Num w v N) (hb : Below w.heap.size w w') : Num w' v N := by
  obtain ⟨A, c, rfl, hc, hr⟩ := h
  exact ⟨A, c, rfl, hc, (hr.below hb).mono hb.size⟩
theorem Num.nil (w : World) : Num w (.slice none 0 0) 0 := ⟨none, 0, by rw [dg_zero]; rfl, by rw [dg_zero]; simp, by rw [dg_zero]; exact Rd.nil⟩
theorem Num.bk {w : World} {g N : Nat} (h : Bk w g (dg N)) : Num w (.slice (some ⟨g, 0, none⟩) (dg N).length (dg N).length) N :=
  ⟨_, _, rfl, Nat.le_refl _, h.rd h.lt⟩

/-- what a function leaves that gives a number -/
def Gives1 (w : World) (N : Nat) (e : Ending) (w' : World) : Prop := ∃ v, e = .returned v ∧ Num w' v N ∧ Below w.heap.size w w'
/-- a number and an error -/
def Gives (w : World) (N : Nat) (err : Int) (e : Ending) (w' : World) : Prop := ∃ v, e = .returned (.tuple #[v, .int .i64 err]) ∧ Num w' v N ∧ Below w.heap.size w w'

/-- a number within the limit; the error -/
def lim (N : Nat) : Nat := if (dg N).length ≤ 1024 then N else 0
def limE (N : Nat) : Int := if (dg N).length ≤ 1024 then 0 else 2
theorem lim_of {N : Nat} (h : (dg N).length ≤ 1024) : lim N = N := if_pos h
theorem limE_of {N : Nat} (h : (dg N).length ≤ 1024) : limE N = 0 := if_pos h
theorem lim_not {N : Nat} (h : ¬ (dg N).length ≤ 1024) : lim N = 0 := if_neg h
theorem limE_not {N : Nat} (h : ¬ (dg N).length ≤ 1024) : limE N = 2 := if_neg h

theorem vldB_dg {N : Nat} (h : (dg N).length ≤ 1024) : vldB (dg N) = true := by
  unfold vldB
  rw [decide_eq_true h, Bool.true_and]
  rcases can_dg N with e | e
  · rw [e]; rfl
  · by_cases h0 : (dg N).length = 0
    · simp [h0]
    · rw [Bool.or_eq_true]
      right
      rw [List.getLast?_eq_getElem?, List.getElem?_eq_getElem (by omega)] at e
      rw [nth_getElem (by omega)]
      simpa using e

theorem vldB_iff {l : List Nat} (hw : Wf l) : vldB l = true ↔ l = dg (val l) ∧ (dg (val l)).length ≤ 1024 := by
  constructor
  · intro h
    unfold vldB at h
    rw [Bool.and_eq_true, decide_eq_true_eq, Bool.or_eq_true] at h
    have hc : Nt.Can l := by
      rcases h.2 with h2 | h2
      · exact .inl (List.eq_nil_of_length_eq_zero (by simpa using h2))
      · right
        by_cases h0 : l.length = 0
        · rw [List.eq_nil_of_length_eq_zero h0]; simp
        · rw [List.getLast?_eq_getElem?, List.getElem?_eq_getElem (by omega)]
          rw [nth_getElem (by omega)] at h2
          simpa using h2
    have e := dg_val hw hc
    exact ⟨e.symm, by rw [e]; exact h.1⟩
  · rintro ⟨e, h⟩
    rw [e]; exact vldB_dg h

set_option maxHeartbeats 400000 in
theorem canonical_any {B : Nat} {A : Option Addr} {l : List Nat} {w : World} (c n : Nat) (hr : Rd w B A l) (hB : B ≤ w.heap.size) (hw : Wf l) (hn : l.length = n) (hm : n ≤ 1000000) (hnc : n ≤ c) :
    Calls Try.prog 47 #[.slice A n c] w (fun e w' => e = .returned (.slice (some ⟨w.heap.size, 0, none⟩) (dg (val l)).length (dg (val l)).length) ∧ Bk w' w.heap.size (dg (val l)) ∧ w'.heap.size = w.heap.size + 1 ∧ Below w.heap.size w w') := by
  have hl : (dg (val l)).length ≤ n := by
    have := dg_val_take hw
    have h2 := congrArg List.length this
    rw [List.length_take] at h2; omega
  have HR := Lib.hid hr
  have HW := Lib.hid hw
  have HN := Lib.hid hn
  clear hr hw hn
  go_enter Try.func47, Try.ntmps47
  go_wp2_with (first
    | (go_at_call 56; refine (trimmed_any c n HR.out HW.out HN.out (by omega) hnc).mono ?_; rintro e w' ⟨rfl, rfl⟩)
    | (go_at_call 45; refine (duplicate_any c _ (HR.out.dg HW.out) hB rfl (by omega)).mono ?_; rintro e w' ⟨rfl, h1, h2, h3⟩; have H1 := Lib.hid h1; have H2 := Lib.hid h2; clear h1 h2))
  go_ret
  exact ⟨rfl, H1.out, H2.out, h3⟩

theorem canonical_gives {B : Nat} {A : Option Addr} {l : List Nat} {w : World} (c n : Nat) (hr : Rd w B A l) (hB : B ≤ w.heap.size) (hw : Wf l) (hn : l.length = n) (hm : n ≤ 1000000) (hnc : n ≤ c) :
    Calls Try.prog 47 #[.slice A n c] w (Gives1 w (val l)) :=
  (canonical_any c n hr hB hw hn hm hnc).mono fun _ _ ⟨h1, h2, _, h4⟩ => ⟨_, h1, Num.bk h2, h4⟩

set_option maxHeartbeats 400000 in
theorem limited_any {B : Nat} {A : Option Addr} {l : List Nat} {w : World} (c n : Nat) (hr : Rd w B A l) (hB : B ≤ w.heap.size) (hw : Wf l) (hn : l.length = n) (hm : n ≤ 1000000) (hnc : n ≤ c) :
    Calls Try.prog 41 #[.slice A n c] w (Gives w (lim (val l)) (limE (val l))) := by
  have HR := Lib.hid hr
  have HW := Lib.hid hw
  have HN := Lib.hid hn
  have hl : (dg (val l)).length ≤ n := by
    have := dg_val_take hw
    have h2 := congrArg List.length this
    rw [List.length_take] at h2; omega
  clear hr hw hn
  by_cases hle : (dg (val l)).length ≤ 1024
  · rw [lim_of hle, limE_of hle]
    go_enter Try.func41, Try.ntmps41
    go_wp2_with (first
      | (go_at_call 56; refine (trimmed_any c n HR.out HW.out HN.out (by omega) hnc).mono ?_; rintro e w' ⟨rfl, rfl⟩)
      | (go_at_call 47; refine (canonical_gives c n HR.out hB HW.out HN.out hm hnc).mono ?_; rintro e w' ⟨v, rfl, h1, h2⟩; have H1 := Lib.hid h1; clear h1))
    go_ret2
    exact ⟨v, rfl, H1.out, h2⟩
  · rw [lim_not hle, limE_not hle]
    go_enter Try.func41, Try.ntmps41
    go_wp2_with (first
      | (go_at_call 56; refine (trimmed_any c n HR.out HW.out HN.out (by omega) hnc).mono ?_; rintro e w' ⟨rfl, rfl⟩))
    go_ret2
    exact ⟨_, rfl, Num.nil _, Below.refl _ _⟩

end Go.Proofs.Ytogmgomcdhfolaa
