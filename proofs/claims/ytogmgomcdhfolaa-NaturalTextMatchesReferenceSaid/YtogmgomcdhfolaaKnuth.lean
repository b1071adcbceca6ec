/-
  Knuth's algorithm D as plain mathematics: the estimate of a limb of the quotient, and the correction.
-/
import Derived.Test.YtogmgomcdhfolaaNum
namespace Go.Proofs.Ytogmgomcdhfolaa
open Nt

/-- the state of the estimate's loop: l * high + r = top, and the true limb q is at most l -/
structure EstI (top high q l r : Nat) : Prop where
  eq : l * high + r = top
  le : q ≤ l

/-- what the estimate looks at: P = top * B^m + p2 * B^(m-1) + .., v = high * B^m + low * B^(m-1) + .., m = n - 1; here M is B^(n-2) -/
structure EstP (P v q top p2 high low M : Nat) : Prop where
  hp : P < (top * 4294967296 + p2 + 1) * M
  hp' : (top * 4294967296 + p2) * M ≤ P
  hv : (high * 4294967296 + low) * M ≤ v
  hv' : v < (high * 4294967296 + low + 1) * M
  hM : 0 < M
  q1 : q * v ≤ P
  q2 : P < (q + 1) * v

theorem est_start {P v q top p2 high low M : Nat} (h : EstP P v q top p2 high low M) (hp2 : p2 < 4294967296) (hh : 0 < high) : EstI top high q (top / high) (top % high) := by
  refine ⟨by rw [Nat.mul_comm]; exact Nat.div_add_mod top high, ?_⟩
  rw [Nat.le_div_iff_mul_le hh]
  have h1 : q * ((high * 4294967296 + low) * M) < (top * 4294967296 + p2 + 1) * M := Nat.lt_of_le_of_lt (Nat.le_trans (Nat.mul_le_mul_left q h.hv) h.q1) h.hp
  rw [← Nat.mul_assoc] at h1
  have h2 := Nat.lt_of_mul_lt_mul_right h1
  have h3 : q * (high * 4294967296 + low) = q * high * 4294967296 + q * low := by rw [Nat.mul_add, Nat.mul_assoc]
  rw [h3] at h2
  generalize q * high = x at h2
  generalize q * low = y at h2
  omega

/-- a limb that is found too great is lowered -/
theorem est_step {P v q top p2 high low M l r : Nat} (h : EstP P v q top p2 high low M) (hi : EstI top high q l r) (hq : q < 4294967296)
    (hc : 4294967295 < l ∨ r * 4294967296 + p2 < l * low) : 0 < l ∧ EstI top high q (l - 1) (r + high) := by
  have hlt : q < l := by
    rcases Nat.lt_or_ge q l with h1 | h1
    · exact h1
    · exfalso
      have e : q = l := Nat.le_antisymm hi.le h1
      subst e
      rcases hc with h2 | h2
      · omega
      · have h3 : q * ((high * 4294967296 + low) * M) < (top * 4294967296 + p2 + 1) * M := Nat.lt_of_le_of_lt (Nat.le_trans (Nat.mul_le_mul_left q h.hv) h.q1) h.hp
        rw [← Nat.mul_assoc] at h3
        have h4 := Nat.lt_of_mul_lt_mul_right h3
        have e1 : q * (high * 4294967296 + low) = q * high * 4294967296 + q * low := by rw [Nat.mul_add, Nat.mul_assoc]
        rw [e1] at h4
        have e2 := hi.eq
        generalize q * high = x at h4 e2
        generalize q * low = y at h4 h2
        omega
  refine ⟨by omega, ?_, by omega⟩
  obtain ⟨m, rfl⟩ : ∃ m, l = m + 1 := ⟨l - 1, by omega⟩
  have e := hi.eq
  rw [Nat.add_mul, Nat.one_mul] at e
  rw [Nat.add_sub_cancel]
  omega

/-- where the loop is left the limb is at most one too great -/
theorem est_done {P v q top p2 high low M l r : Nat} (h : EstP P v q top p2 high low M) (_hi : EstI top high q l r) (hl : l ≤ 4294967295) (hle : l * low ≤ r * 4294967296 + p2) (hh : 0 < high) (he : l * high + r = top) : l ≤ q + 1 := by
  rcases Nat.lt_or_ge (q + 1) l with hlt | hge
  · exfalso
    obtain ⟨m, rfl⟩ : ∃ m, l = m + 1 := ⟨l - 1, by omega⟩
    have hm : q + 1 ≤ m := by omega
    have h1 : P < m * v := Nat.lt_of_lt_of_le h.q2 (Nat.mul_le_mul_right v hm)
    -- (m + 1) * (high B + low) ≤ top B + p2
    have h2 : (m + 1) * (high * 4294967296 + low) ≤ top * 4294967296 + p2 := by
      have e1 : (m + 1) * (high * 4294967296 + low) = (m + 1) * high * 4294967296 + (m + 1) * low := by rw [Nat.mul_add, Nat.mul_assoc]
      rw [e1]
      generalize (m + 1) * high = x at he
      generalize (m + 1) * low = y at hle
      omega
    have h3 : (m + 1) * (high * 4294967296 + low) * M ≤ P := Nat.le_trans (Nat.mul_le_mul_right M h2) h.hp'
    -- m * v < m * (high B + low + 1) * M ≤ (m + 1) * (high B + low) * M
    have h4 : m * v ≤ m * ((high * 4294967296 + low + 1) * M) := Nat.mul_le_mul_left m (Nat.le_of_lt h.hv')
    have h5 : m * (high * 4294967296 + low + 1) ≤ (m + 1) * (high * 4294967296 + low) := by
      rw [Nat.mul_add, Nat.add_mul, Nat.mul_one, Nat.one_mul]
      have : m ≤ high * 4294967296 + low := by omega
      omega
    have h6 : m * ((high * 4294967296 + low + 1) * M) ≤ (m + 1) * (high * 4294967296 + low) * M := by
      rw [← Nat.mul_assoc]; exact Nat.mul_le_mul_right M h5
    omega
  · exact hge

/-- the loop's second way out: the remainder has outgrown a limb -/
theorem est_break {top high l r p1 : Nat} (he : l * high + r = top) (ht : top < high * 4294967296 + 4294967296) (hr : 4294967296 ≤ r) (_hp : p1 = 0) : l ≤ 4294967295 := by
  have h1 : l * high < 4294967296 * high := by rw [Nat.mul_comm 4294967296]; omega
  have := Nat.lt_of_mul_lt_mul_right h1
  omega
theorem low_le {l low r p2 : Nat} (hl : l ≤ 4294967295) (hlow : low < 4294967296) (hr : 4294967296 ≤ r) : l * low ≤ r * 4294967296 + p2 := by
  have h1 : l * low ≤ 4294967295 * 4294967295 := Nat.mul_le_mul hl (by omega)
  omega

/-- the quotient's limb and the remainder, after the multiple e * v has been taken away; b tells whether too much was -/
theorem quo_exact {P v q e x b W : Nat} (hx : x + e * v = P + W * b) (hxW : x < W) (hb : b ≤ 1) (hq1 : q * v ≤ P) (hq2 : P < (q + 1) * v) (_hvW : v ≤ W) (he1 : q ≤ e) (he2 : e ≤ q + 1) :
    (b = 0 → e = q ∧ x = P - q * v) ∧ (b = 1 → e = q + 1 ∧ x + v = W + (P - q * v)) := by
  have e3 : (q + 1) * v = q * v + v := by rw [Nat.add_mul, Nat.one_mul]
  constructor
  · intro h0
    subst h0
    rw [Nat.mul_zero, Nat.add_zero] at hx
    rcases Nat.lt_or_ge q e with h | h
    · have e1 : e = q + 1 := by omega
      subst e1
      omega
    · have e1 : e = q := by omega
      subst e1
      exact ⟨rfl, by omega⟩
  · intro h1
    subst h1
    rw [Nat.mul_one] at hx
    rcases Nat.lt_or_ge q e with h | h
    · have e1 : e = q + 1 := by omega
      subst e1
      exact ⟨rfl, by omega⟩
    · have e1 : e = q := by omega
      subst e1
      omega

end Go.Proofs.Ytogmgomcdhfolaa
