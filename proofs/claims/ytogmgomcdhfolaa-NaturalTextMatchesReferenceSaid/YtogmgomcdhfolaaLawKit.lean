/-
  The contracts in the form in which the laws' walks use them.
-/
import Derived.Test.YtogmgomcdhfolaaSanity
import Derived.ProofKit
import Derived.OpenShut
import Derived.ShutString
import Derived.ChangeOld
namespace Go.Proofs.Ytogmgomcdhfolaa
open Go.RowKit Nt

/-- a number of at most k limbs -/
def Fit (k N : Nat) : Prop := (dg N).length ≤ k
theorem Fit.mono {i j N : Nat} (h : Fit i N) (hij : i ≤ j) : Fit j N := Nat.le_trans h hij
theorem Fit.lt {k N : Nat} (h : Fit k N) : N < 4294967296 ^ k := Nat.lt_of_lt_of_le (lt_pow_dg N) (Nat.pow_le_pow_right (by omega) h)
theorem Fit.add {k a b : Nat} (ha : Fit k a) (hb : Fit k b) : Fit (k + 1) (a + b) := by
  apply dg_length_le
  have h1 := ha.lt
  have h2 := hb.lt
  rw [Nat.pow_succ]
  generalize 4294967296 ^ k = P at h1 h2
  omega
theorem Fit.mul {i j a b : Nat} (ha : Fit i a) (hb : Fit j b) : Fit (i + j) (a * b) := by
  apply dg_length_le
  rw [Nat.pow_add]
  exact Nat.mul_lt_mul'' ha.lt hb.lt
theorem Fit.le {k a b : Nat} (hb : Fit k b) (h : a ≤ b) : Fit k a := Nat.le_trans (dg_length_mono h) hb
theorem Fit.list {l : List Nat} (hw : Wf l) (k : Nat) : Fit k (val (l.take k)) := by
  have h2 := congrArg List.length (dg_val_take (hw.take k))
  rw [List.length_take, List.length_take] at h2
  unfold Fit; omega
theorem Fit.sub {k a : Nat} (ha : Fit k a) (b : Nat) : Fit k (a - b) := ha.le (Nat.sub_le _ _)
theorem Fit.zero (k : Nat) : Fit k 0 := by unfold Fit; rw [dg_zero]; exact Nat.zero_le _
theorem Fit.out {k N : Nat} (h : Fit k N) (hk : k ≤ 1024) : (dg N).length ≤ 1024 := Nat.le_trans h hk

/-- a list that reads, kept from the walk; carried on -/
theorem rdb {w w' : World} {A : Option Addr} {l : List Nat} (h : Hid (Rd w w.heap.size A l)) (hb : Below w.heap.size w w') : Hid (Rd w' w'.heap.size A l) := (h.out.below hb).mono hb.size

/-- a number comes back -/
def Back (w : World) (N : Nat) (e : Ending) (w' : World) : Prop := ∃ A c, e = .returned (.slice A (dg N).length c) ∧ (dg N).length ≤ c ∧ Hid (Rd w' w'.heap.size A (dg N)) ∧ Below w.heap.size w w'
theorem Gives1.back {w : World} {N : Nat} {e : Ending} {w' : World} (h : Gives1 w N e w') : Back w N e w' := by
  obtain ⟨v, rfl, ⟨A, c, rfl, hc, hr⟩, hb⟩ := h
  exact ⟨A, c, rfl, hc, hr, hb⟩
/-- a number and an error come back -/
def Back2 (w : World) (N : Nat) (err : Int) (e : Ending) (w' : World) : Prop := ∃ A c, e = .returned (.tuple #[.slice A (dg N).length c, .int .i64 err]) ∧ (dg N).length ≤ c ∧ Hid (Rd w' w'.heap.size A (dg N)) ∧ Below w.heap.size w w'
theorem Gives.back {w : World} {N : Nat} {err : Int} {e : Ending} {w' : World} (h : Gives w N err e w') : Back2 w N err e w' := by
  obtain ⟨v, rfl, ⟨A, c, rfl, hc, hr⟩, hb⟩ := h
  exact ⟨A, c, rfl, hc, hr, hb⟩
/-- two numbers and an error come back -/
def Back3 (w : World) (q r : Nat) (err : Int) (e : Ending) (w' : World) : Prop := ∃ A c A' c', e = .returned (.tuple #[.slice A (dg q).length c, .slice A' (dg r).length c', .int .i64 err]) ∧ (dg q).length ≤ c ∧ (dg r).length ≤ c' ∧ Hid (Rd w' w'.heap.size A (dg q)) ∧ Hid (Rd w' w'.heap.size A' (dg r)) ∧ Below w.heap.size w w'
theorem Gives3.back {w : World} {q r : Nat} {err : Int} {e : Ending} {w' : World} (h : Gives3 w q r err e w') : Back3 w q r err e w' := by
  obtain ⟨v, u, rfl, ⟨A, c, rfl, hc, hr⟩, ⟨A', c', rfl, hc', hr'⟩, hb⟩ := h
  exact ⟨A, c, A', c', rfl, hc, hc', hr, hr', hb⟩
/-- true or false comes back -/
def BackB (w : World) (b : Bool) (e : Ending) (w' : World) : Prop := e = .returned (.bool b) ∧ Below w.heap.size w w'
def BackI (w : World) (z : Int) (e : Ending) (w' : World) : Prop := e = .returned (.int .i64 z) ∧ Below w.heap.size w w'
def BackS (w : World) (s : ByteArray) (e : Ending) (w' : World) : Prop := e = .returned (.string s) ∧ Below w.heap.size w w'

section
variable {w : World} {A A' : Option Addr} {c d i j a b : Nat}

theorem k_made {n v : Nat} {l : List Nat} (N : Nat) (hr : Hid (Rd w w.heap.size A l)) (hl : Hid (Wf l ∧ l.length = n ∧ n ≤ 9223372036854775807 ∧ n ≤ c)) (hv : Hid (val (l.take N) = v)) (hN : N ≤ 1000) :
    Calls Try.prog 37 #[.slice A n c, .int .i64 (N : Int)] w (Back w v) := by
  obtain ⟨h1, h2, h3, h4⟩ := hl.out
  have := (made_any c n N hr.out h1 h2 h3 h4 hN).mono fun _ _ h => h.back
  rwa [hv.out] at this
theorem k_add (k : Nat) (ha : Hid (Rd w w.heap.size A (dg a))) (hb : Hid (Rd w w.heap.size A' (dg b))) (fa : Fit k a) (fb : Fit k b) (hk : k ≤ 1023) :
    Calls Try.prog 38 #[.slice A (dg a).length c, .slice A' (dg b).length d] w (Back w (a + b)) := by
  have := ladd_ok a b c d A A' w ha hb (fa.out (by omega)) (fb.out (by omega))
  rw [lim_of ((fa.add fb).out (by omega))] at this
  exact this.mono fun _ _ h => h.back
theorem k_mul (i j : Nat) (ha : Hid (Rd w w.heap.size A (dg a))) (hb : Hid (Rd w w.heap.size A' (dg b))) (fa : Fit i a) (fb : Fit j b) (hk : i + j ≤ 1024) :
    Calls Try.prog 39 #[.slice A (dg a).length c, .slice A' (dg b).length d] w (Back w (a * b)) := by
  have := lmul_ok a b c d A A' w ha hb (fa.out (by omega)) (fb.out (by omega))
  rw [lim_of ((fa.mul fb).out (by omega))] at this
  exact this.mono fun _ _ h => h.back
theorem k_add0 (k : Nat) (ha : Hid (Rd w w.heap.size A (dg a))) (fa : Fit k a) (hk : k ≤ 1023) :
    Calls Try.prog 38 #[.slice A (dg a).length c, .slice none 0 0] w (Back w a) := by
  have := k_add (w := w) (A := A) (A' := none) (c := c) (d := 0) (a := a) (b := 0) k ha (show Rd w w.heap.size none (dg 0) by rw [dg_zero]; exact Rd.nil) fa (Fit.zero _) hk
  rwa [dg_zero] at this
theorem k_mul0 (k : Nat) (ha : Hid (Rd w w.heap.size A (dg a))) (fa : Fit k a) (hk : k ≤ 1024) :
    Calls Try.prog 39 #[.slice A (dg a).length c, .slice none 0 0] w (Back w 0) := by
  have := k_mul (w := w) (A := A) (A' := none) (c := c) (d := 0) (a := a) (b := 0) k 0 ha (show Rd w w.heap.size none (dg 0) by rw [dg_zero]; exact Rd.nil) fa (Fit.zero _) hk
  rwa [dg_zero] at this
theorem k_mul1 (k : Nat) (ha : Hid (Rd w w.heap.size A (dg a))) (fa : Fit k a) (hk : k ≤ 1023) :
    Calls Try.prog 39 #[.slice A (dg a).length c, .slice (some ⟨w.heap.size, 0, none⟩) 1 1] (w.alloc (.cells #[.int .u32 1] 41)) (Back w a) := by
  have hb := (Below.refl w.heap.size w).alloc (Nat.le_refl _) (.cells #[.int .u32 1] 41)
  have e1 : dg 1 = [1] := dg_one (by omega) (by omega)
  have r1 : Rd (w.alloc (.cells #[.int .u32 1] 41)) (w.alloc (.cells #[.int .u32 1] 41)).heap.size (some ⟨w.heap.size, 0, none⟩) (dg 1) := by
    rw [e1]; exact (bk_one w (X := 1) (x := 1) rfl).rd (bk_one w (X := 1) (x := 1) rfl).lt
  have := k_mul (c := c) (d := 1) k 1 (rdb ha hb) r1 fa (show Fit 1 1 by unfold Fit; rw [e1]; exact Nat.le_refl _) (by omega)
  rw [e1, Nat.mul_one] at this
  exact this.mono fun _ _ ⟨A, c, h1, h2, h3, h4⟩ => ⟨A, c, h1, h2, h3, hb.trans (h4.mono hb.size)⟩
theorem k_same (t : Bool) (ha : Hid (Rd w w.heap.size A (dg a))) (hb : Hid (Rd w w.heap.size A' (dg b))) (la : (dg a).length ≤ 1024) (lb : (dg b).length ≤ 1024) (h : decide (a = b) = t) :
    Calls Try.prog 17 #[.slice A (dg a).length c, .slice A' (dg b).length d] w (BackB w t) := by
  subst h
  exact (same_num c d ha.out hb.out la lb).mono fun _ _ ⟨h1, h2⟩ => ⟨h1, h2.below _⟩
theorem k_cmp (z : Int) (ha : Hid (Rd w w.heap.size A (dg a))) (hb : Hid (Rd w w.heap.size A' (dg b))) (la : (dg a).length ≤ 1024) (lb : (dg b).length ≤ 1024) (h : cmpN a b = z) :
    Calls Try.prog 28 #[.slice A (dg a).length c, .slice A' (dg b).length d] w (BackI w z) := by
  subst h
  exact (compare_ok c d ha.out hb.out la lb).mono fun _ _ ⟨h1, h2⟩ => ⟨h1, h2.below _⟩
theorem k_sub (v : Nat) (z : Int) (ha : Hid (Rd w w.heap.size A (dg a))) (hb : Hid (Rd w w.heap.size A' (dg b))) (la : (dg a).length ≤ 1024) (lb : (dg b).length ≤ 1024) (h : subE a b = z) (hv : a - b = v) :
    Calls Try.prog 18 #[.slice A (dg a).length c, .slice A' (dg b).length d] w (Back2 w v z) := by
  subst h
  subst hv
  exact (sub_ok c d ha.out hb.out la lb).mono fun _ _ h => h.back
theorem k_sub_neg (ha : Hid (Rd w w.heap.size A (dg a))) (hb : Hid (Rd w w.heap.size A' (dg b))) (la : (dg a).length ≤ 1024) (lb : (dg b).length ≤ 1024) (h : a < b) :
    Calls Try.prog 18 #[.slice A (dg a).length c, .slice A' (dg b).length d] w (Back2 w 0 10) := by
  exact k_sub 0 10 ha hb la lb (subE_lt h) (by omega)
theorem k_sanity : Calls Try.prog 14 #[] w (BackB w true) := sanity_ok w
theorem k_text (ha : Hid (Rd w w.heap.size A (dg a))) (la : (dg a).length ≤ 1024) : Calls Try.prog 34 #[.slice A (dg a).length c] w (BackS w (txt a)) := text_ok a c A w ha.out la
theorem k_valid (ha : Hid (Rd w w.heap.size A (dg a))) (la : (dg a).length ≤ 1024) : Calls Try.prog 26 #[.slice A (dg a).length c] w (BackB w true) :=
  (valid_yes c _ ha.out rfl (by omega) (vldB_dg la)).mono fun _ _ ⟨h1, h2⟩ => ⟨h1, by subst h2; exact Below.refl _ _⟩
end

theorem cmpN_range (a b : Nat) : -1 ≤ cmpN a b ∧ cmpN a b ≤ 1 := by unfold cmpN; split <;> (try split) <;> omega
theorem cmpN_neg (a b : Nat) : cmpN b a = - cmpN a b := by unfold cmpN; split <;> split <;> (try split) <;> omega
theorem cmpN_zero (a b : Nat) : cmpN a b = 0 ↔ a = b := by unfold cmpN; split <;> (try split) <;> omega
theorem same_zero {a b : Nat} {x : Int} (h : cmpN a b = x) : decide (a = b) = (x == 0) := by
  by_cases e : a = b
  · have := (cmpN_zero a b).2 e
    rw [decide_eq_true e, ← h, this]; rfl
  · have : ¬ x = 0 := fun hx => e ((cmpN_zero a b).1 (h.trans hx))
    rw [decide_eq_false e]; exact (beq_eq_false_iff_ne.2 this).symm
theorem cmpN_nonpos {a b : Nat} : cmpN a b ≤ 0 ↔ a ≤ b := by unfold cmpN; split <;> (try split) <;> omega
theorem cmpN_nonneg {a b : Nat} : 0 ≤ cmpN a b ↔ b ≤ a := by unfold cmpN; split <;> (try split) <;> omega
theorem cmpN_add (a b c : Nat) : cmpN (a + c) (b + c) = cmpN a b := by unfold cmpN; split <;> split <;> (try split) <;> (try split) <;> omega
theorem cmpN_mul {a b c : Nat} (hc : 0 < c) : cmpN (a * c) (b * c) = cmpN a b := by
  rcases Nat.lt_trichotomy a b with h | h | h
  · rw [cmpN_lt h, cmpN_lt (Nat.mul_lt_mul_of_pos_right h hc)]
  · subst h; rw [cmpN_eq, cmpN_eq]
  · rw [cmpN_gt h, cmpN_gt (Nat.mul_lt_mul_of_pos_right h hc)]

theorem len_zero {c : Nat} (h : c = 0) : (((dg c).length : Int) == 0) = true := by rw [h, dg_zero]; rfl
theorem len_pos {c : Nat} (h : 0 < c) : (((dg c).length : Int) == 0) = false := by
  apply beq_eq_false_iff_ne.2
  intro e
  have e2 : (dg c).length = 0 := by omega
  exact absurd (dg_eq_nil.1 (List.eq_nil_of_length_eq_zero e2)) (by omega)

/-- what a law is told of a slice of limbs that came in, as a list of numbers -/
theorem row_rd {w : World} {a : Option Addr} {len cap : Nat} {zs : List Int}
    (h : (a = none ∧ len = 0 ∧ cap = 0 ∧ zs = []) ∨ ∃ x, a = some x ∧ len ≤ cap ∧ cap ≤ maxLen ∧ zs.length = cap ∧ (∀ i, i < zs.length → w.cell? (x.add i) = some (.int .u32 (zs.getD i 0))) ∧ ∀ n ∈ zs, (Lit.int .u32 n).wf = true) :
    ∃ l : List Nat, Hid (Rd w w.heap.size a l) ∧ Hid (Wf l ∧ l.length = len ∧ len ≤ 9223372036854775807 ∧ len ≤ cap) := by
  rcases h with ⟨rfl, rfl, rfl, rfl⟩ | ⟨x, rfl, h1, h2, h3, h4, h5⟩
  · exact ⟨[], Rd.nil, wf_nil, rfl, by omega, Nat.le_refl _⟩
  · refine ⟨(zs.take len).map Int.toNat, ?_, ?_, by simp; omega, by unfold maxLen at h2; omega, h1⟩
    · intro h0
      obtain ⟨b, o, rfl, hc⟩ := Go.ints_at h4 (by simp at h0; omega)
      refine ⟨b, o, rfl, ?_, fun j hj => ?_⟩
      · exact block_lt_of_cell (hc 0 (by simp at h0; omega))
      · simp only [List.length_map, List.length_take] at hj
        rw [hc j (by omega)]
        have hz := (Go.bounds_u32 (h5 (zs.getD j 0) (by rw [List.getD_eq_getElem?_getD, List.getElem?_eq_getElem (by omega)]; exact List.getElem_mem _))).1
        have e : nth ((zs.take len).map Int.toNat) j = (zs.getD j 0).toNat := by
          unfold nth
          rw [List.getD_eq_getElem?_getD, List.getD_eq_getElem?_getD, List.getElem?_map, List.getElem?_take, if_pos (by omega)]
          rw [List.getElem?_eq_getElem (by omega)]; rfl
        rw [e, Int.toNat_of_nonneg hz]
    · intro x hx
      obtain ⟨n, hn, rfl⟩ := List.mem_map.1 hx
      have := Go.bounds_u32 (h5 n (List.mem_of_mem_take hn))
      omega

end Go.Proofs.Ytogmgomcdhfolaa
