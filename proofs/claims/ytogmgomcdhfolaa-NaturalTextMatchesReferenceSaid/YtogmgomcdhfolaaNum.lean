/-
  Plain mathematics of limbs to the base 2^32; it imports nothing of the translation.
-/
namespace Go.Proofs.Ytogmgomcdhfolaa
namespace Nt

/-- the number of a list of limbs, the least significant first -/
def val : List Nat → Nat
  | [] => 0
  | x :: xs => x + 4294967296 * val xs

/-- every limb is below the base -/
def Wf (l : List Nat) : Prop := ∀ x ∈ l, x < 4294967296

/-- the digits of a number to the base 2^32, the least significant first, with no zero at the end -/
def dg (n : Nat) : List Nat := if h : n = 0 then [] else n % 4294967296 :: dg (n / 4294967296)
termination_by n
decreasing_by exact Nat.div_lt_self (by omega) (by omega)

theorem dg_zero : dg 0 = [] := by rw [dg]; simp
theorem dg_pos {n : Nat} (h : n ≠ 0) : dg n = n % 4294967296 :: dg (n / 4294967296) := by rw [dg]; simp [h]

theorem val_nil : val [] = 0 := rfl
theorem val_cons (x : Nat) (l : List Nat) : val (x :: l) = x + 4294967296 * val l := rfl

theorem val_dg (n : Nat) : val (dg n) = n := by
  induction n using Nat.strongRecOn with
  | _ n ih =>
    by_cases h : n = 0
    · subst h; rw [dg_zero]; rfl
    · rw [dg_pos h, val_cons, ih _ (Nat.div_lt_self (by omega) (by omega))]; omega

theorem wf_nil : Wf [] := by intro x hx; cases hx
theorem wf_cons {x : Nat} {l : List Nat} : Wf (x :: l) ↔ x < 4294967296 ∧ Wf l := by
  unfold Wf; simp
theorem wf_append {l m : List Nat} : Wf (l ++ m) ↔ Wf l ∧ Wf m := by
  unfold Wf; simp only [List.mem_append]
  exact ⟨fun h => ⟨fun x hx => h x (.inl hx), fun x hx => h x (.inr hx)⟩, fun h x hx => hx.elim (h.1 x) (h.2 x)⟩
theorem Wf.take {l : List Nat} (h : Wf l) (n : Nat) : Wf (l.take n) := fun x hx => h x (List.mem_of_mem_take hx)
theorem Wf.drop {l : List Nat} (h : Wf l) (n : Nat) : Wf (l.drop n) := fun x hx => h x (List.mem_of_mem_drop hx)
theorem Wf.getD {l : List Nat} (h : Wf l) (i : Nat) : l.getD i 0 < 4294967296 := by
  rw [List.getD_eq_getElem?_getD]
  rcases Nat.lt_or_ge i l.length with hi | hi
  · rw [List.getElem?_eq_getElem hi]; exact h _ (List.getElem_mem hi)
  · rw [List.getElem?_eq_none hi]; simp
theorem wf_replicate (n : Nat) : Wf (List.replicate n 0) := by
  intro x hx; have := List.eq_of_mem_replicate hx; omega

theorem wf_dg (n : Nat) : Wf (dg n) := by
  induction n using Nat.strongRecOn with
  | _ n ih =>
    by_cases h : n = 0
    · subst h; rw [dg_zero]; exact wf_nil
    · rw [dg_pos h]; exact wf_cons.2 ⟨by omega, ih _ (Nat.div_lt_self (by omega) (by omega))⟩

theorem val_append (l m : List Nat) : val (l ++ m) = val l + 4294967296 ^ l.length * val m := by
  induction l with
  | nil => simp [val]
  | cons x l ih =>
    rw [List.cons_append, val_cons, ih, val_cons, List.length_cons, Nat.pow_succ, Nat.mul_add, Nat.mul_comm (4294967296 ^ l.length) 4294967296, Nat.mul_assoc 4294967296]
    omega

theorem val_snoc (l : List Nat) (x : Nat) : val (l ++ [x]) = val l + 4294967296 ^ l.length * x := by
  rw [val_append, val_cons, val_nil]; simp

theorem val_lt {l : List Nat} (h : Wf l) : val l < 4294967296 ^ l.length := by
  induction l with
  | nil => simp [val]
  | cons x l ih =>
    obtain ⟨hx, hl⟩ := wf_cons.1 h
    have := ih hl
    rw [val_cons, List.length_cons, Nat.pow_succ]
    omega

theorem val_replicate (n : Nat) : val (List.replicate n 0) = 0 := by
  induction n with
  | zero => rfl
  | succ n ih => rw [List.replicate_succ, val_cons, ih]

/-- no zero at the end -/
def Can (l : List Nat) : Prop := l = [] ∨ l.getLast? ≠ some 0

theorem can_nil : Can [] := .inl rfl

theorem can_cons {x y : Nat} {l : List Nat} (h : Can (x :: y :: l)) : Can (y :: l) := by
  rcases h with h | h
  · cases h
  · right; rw [List.getLast?_cons_cons] at h; exact h

theorem val_pos {l : List Nat} (hc : Can l) (hl : l ≠ []) : val l ≠ 0 := by
  induction l with
  | nil => exact absurd rfl hl
  | cons x l ih =>
    rw [val_cons]
    cases l with
    | nil =>
      rcases hc with h | h
      · cases h
      · simp at h; rw [val_nil]; omega
    | cons y l =>
      have := ih (can_cons hc) (by simp)
      omega

/-- a canonical list is the list of the digits of its number -/
theorem dg_val {l : List Nat} (hw : Wf l) (hc : Can l) : dg (val l) = l := by
  induction l with
  | nil => exact dg_zero
  | cons x l ih =>
    have hp := val_pos hc (by simp)
    obtain ⟨hx, hwl⟩ := wf_cons.1 hw
    rw [dg_pos hp]
    have e1 : val (x :: l) % 4294967296 = x := by rw [val_cons]; omega
    have e2 : val (x :: l) / 4294967296 = val l := by rw [val_cons]; omega
    rw [e1, e2]
    cases l with
    | nil => rw [val_nil, dg_zero]
    | cons y l => rw [ih hwl (can_cons hc)]

theorem dg_eq_nil {n : Nat} : dg n = [] ↔ n = 0 := by
  constructor
  · intro h; have := val_dg n; rw [h, val_nil] at this; exact this.symm
  · rintro rfl; exact dg_zero

theorem can_dg (n : Nat) : Can (dg n) := by
  induction n using Nat.strongRecOn with
  | _ n ih =>
    by_cases h : n = 0
    · subst h; exact .inl dg_zero
    · rw [dg_pos h]
      have ih := ih _ (Nat.div_lt_self (n := n) (k := 4294967296) (by omega) (by omega))
      right
      by_cases h2 : n / 4294967296 = 0
      · rw [h2, dg_zero]; simp; omega
      · rcases ih with e | e
        · exact absurd (dg_eq_nil.1 e) h2
        · rw [dg_pos h2] at e ⊢
          rw [List.getLast?_cons_cons]; exact e

theorem dg_inj {m n : Nat} (h : dg m = dg n) : m = n := by rw [← val_dg m, h, val_dg]

/-- the length of the digits, by the number's size -/
theorem dg_length_le {n k : Nat} (h : n < 4294967296 ^ k) : (dg n).length ≤ k := by
  induction k generalizing n with
  | zero => have : n = 0 := by simpa using h
            subst this; rw [dg_zero]; simp
  | succ k ih =>
    by_cases h0 : n = 0
    · subst h0; rw [dg_zero]; simp
    · rw [dg_pos h0, List.length_cons]
      have : n / 4294967296 < 4294967296 ^ k := by
        rw [Nat.pow_succ] at h
        exact Nat.div_lt_of_lt_mul (by rw [Nat.mul_comm]; exact h)
      have := ih this
      omega
theorem lt_pow_dg (n : Nat) : n < 4294967296 ^ (dg n).length := by
  have := val_lt (wf_dg n); rw [val_dg] at this; exact this
theorem pow_le_of_dg {n : Nat} (h : n ≠ 0) : 4294967296 ^ ((dg n).length - 1) ≤ n := by
  rcases Nat.lt_or_ge n (4294967296 ^ ((dg n).length - 1)) with hl | hl
  · have := dg_length_le hl
    have h2 : (dg n).length ≠ 0 := fun e => h (dg_eq_nil.1 (List.eq_nil_of_length_eq_zero e))
    omega
  · exact hl
theorem dg_length_mono {m n : Nat} (h : m ≤ n) : (dg m).length ≤ (dg n).length :=
  dg_length_le (Nat.lt_of_le_of_lt h (lt_pow_dg n))

/-- a list whose tail from n on is zero, and whose limb before n is none, is cut to its canonical list at n -/
theorem dg_cut {l : List Nat} {n : Nat} (hw : Wf l) (hn : n ≤ l.length) (hz : ∀ i, n ≤ i → i < l.length → l.getD i 0 = 0) (hl : n = 0 ∨ l.getD (n - 1) 0 ≠ 0) :
    dg (val l) = l.take n := by
  have hd : l.drop n = List.replicate (l.length - n) 0 := by
    apply List.ext_getElem
    · simp
    · intro i h1 h2
      have := hz (n + i) (by omega) (by simp at h1; omega)
      rw [List.getD_eq_getElem?_getD, List.getElem?_eq_getElem (by simp at h1; omega)] at this
      simpa using this
  have hv : val l = val (l.take n) := by
    conv => lhs; rw [← List.take_append_drop n l]
    rw [val_append, hd, val_replicate]; simp
  rw [hv]
  apply dg_val (hw.take n)
  rcases hl with h | h
  · left; subst h; rfl
  · by_cases h0 : n = 0
    · left; subst h0; rfl
    · right
      rw [List.getLast?_eq_getElem?, List.length_take, Nat.min_eq_left hn, List.getElem?_take]
      rw [if_pos (by omega)]
      rw [List.getD_eq_getElem?_getD] at h
      intro e; rw [e] at h; simp at h

theorem take_snoc {l : List Nat} {k : Nat} (h : k < l.length) : l.take (k + 1) = l.take k ++ [l.getD k 0] := by
  rw [List.take_succ_eq_append_getElem h, List.getD_eq_getElem?_getD, List.getElem?_eq_getElem h]; rfl
theorem val_take_succ {l : List Nat} {k : Nat} (h : k < l.length) : val (l.take (k + 1)) = val (l.take k) + 4294967296 ^ k * l.getD k 0 := by
  rw [take_snoc h, val_snoc, List.length_take, Nat.min_eq_left (by omega)]

/-- comparing by the highest limb that differs -/
theorem val_lt_of_top {l m : List Nat} {i : Nat} (hl : Wf l) (hlen : l.length = m.length) (hi : i < l.length) (hlt : l.getD i 0 < m.getD i 0)
    (heq : ∀ j, i < j → j < l.length → l.getD j 0 = m.getD j 0) : val l < val m := by
  have hd : l.drop (i + 1) = m.drop (i + 1) := by
    apply List.ext_getElem
    · simp [hlen]
    · intro j h1 h2
      simp at h1 h2
      have := heq (i + 1 + j) (by omega) (by omega)
      rw [List.getD_eq_getElem?_getD, List.getD_eq_getElem?_getD, List.getElem?_eq_getElem (by omega), List.getElem?_eq_getElem (by omega)] at this
      simpa using this
  have e1 : val l = val (l.take (i + 1)) + 4294967296 ^ (i + 1) * val (l.drop (i + 1)) := by
    conv => lhs; rw [← List.take_append_drop (i + 1) l]
    rw [val_append, List.length_take, Nat.min_eq_left (by omega)]
  have e2 : val m = val (m.take (i + 1)) + 4294967296 ^ (i + 1) * val (m.drop (i + 1)) := by
    conv => lhs; rw [← List.take_append_drop (i + 1) m]
    rw [val_append, List.length_take, Nat.min_eq_left (by omega)]
  rw [e1, e2, hd, val_take_succ hi, val_take_succ (by omega : i < m.length)]
  have h1 := val_lt (hl.take i)
  rw [List.length_take, Nat.min_eq_left (by omega)] at h1
  have h2 : 4294967296 ^ i * (l.getD i 0 + 1) ≤ 4294967296 ^ i * m.getD i 0 := Nat.mul_le_mul_left _ hlt
  rw [Nat.mul_add] at h2
  omega

/-- one step of an addition -/
theorem add_step {vx P c a b s m : Nat} (h : vx + P * c = a + b) :
    (vx + P * ((s + m + c) % 4294967296)) + P * 4294967296 * ((s + m + c) / 4294967296) = (a + P * s) + (b + P * m) := by
  have e : P * ((s + m + c) % 4294967296) + P * 4294967296 * ((s + m + c) / 4294967296) = P * s + P * m + P * c := by
    rw [Nat.mul_assoc, ← Nat.mul_add, Nat.mod_add_div, Nat.mul_add, Nat.mul_add]
  omega

/-- one step of a subtraction: d is the digit, b' the borrow -/
theorem sub_step {vx P c a b s m d c' : Nat} (h : vx + b = a + P * c) (hd : d + m + c = s + 4294967296 * c') :
    (vx + P * d) + (b + P * m) = (a + P * s) + P * 4294967296 * c' := by
  have e : P * d + P * m + P * c = P * s + P * 4294967296 * c' := by
    rw [Nat.mul_assoc, ← Nat.mul_add, ← Nat.mul_add, hd, Nat.mul_add]
  omega

/-- one step of a multiplication by a limb, added to a number -/
theorem mul_step {vx P c a b s m f : Nat} (h : vx + P * c = a + f * b) :
    (vx + P * ((m * f + s + c) % 4294967296)) + P * 4294967296 * ((m * f + s + c) / 4294967296) = (a + P * s) + f * (b + P * m) := by
  have e : P * ((m * f + s + c) % 4294967296) + P * 4294967296 * ((m * f + s + c) / 4294967296) = P * (m * f) + P * s + P * c := by
    rw [Nat.mul_assoc, ← Nat.mul_add, Nat.mod_add_div, Nat.mul_add, Nat.mul_add]
  have e2 : f * (b + P * m) = f * b + P * (m * f) := by
    rw [Nat.mul_add, Nat.mul_left_comm, Nat.mul_comm f m]
  omega

/-- one step of a division by a limb, from the top -/
theorem div_step {vs vq rest d s : Nat} (h : vs = vq * d + rest) :
    s + 4294967296 * vs = ((rest * 4294967296 + s) / d + 4294967296 * vq) * d + (rest * 4294967296 + s) % d := by
  have e := Nat.div_add_mod (rest * 4294967296 + s) d
  rw [h, Nat.add_mul, Nat.mul_assoc, Nat.mul_add]
  rw [Nat.mul_comm d] at e
  omega

theorem bit01 {x : Nat} (h : x < 4294967296) : x >>> 31 = 0 ∧ x < 2147483648 ∨ x >>> 31 = 1 ∧ 2147483648 ≤ x := by
  rw [Nat.shiftRight_eq_div_pow]; omega

/-- the borrow of math/bits.Sub32 -/
theorem borrow_eq {x y d c b : Nat} (hx : x < 4294967296) (hy : y < 4294967296) (hd : d < 4294967296) (hc : c ≤ 1) (hb : b ≤ 1) (h : d + y + c = x + 4294967296 * b) :
    (((4294967295 ^^^ x) &&& y) ||| ((4294967295 ^^^ (x ^^^ y)) &&& d)) / 2147483648 = b := by
  have e : ∀ n : Nat, n / 2147483648 = n >>> 31 := fun n => by rw [Nat.shiftRight_eq_div_pow]
  rw [e, Nat.shiftRight_or_distrib, Nat.shiftRight_and_distrib, Nat.shiftRight_and_distrib, Nat.shiftRight_xor_distrib, Nat.shiftRight_xor_distrib, Nat.shiftRight_xor_distrib]
  have hb' : b = 0 ∨ b = 1 := by omega
  rcases bit01 hx with ⟨e1, h1⟩ | ⟨e1, h1⟩ <;> rcases bit01 hy with ⟨e2, h2⟩ | ⟨e2, h2⟩ <;> rcases bit01 hd with ⟨e3, h3⟩ | ⟨e3, h3⟩ <;> rw [e1, e2, e3] <;> rcases hb' with rfl | rfl <;> first | decide | omega

end Nt
end Go.Proofs.Ytogmgomcdhfolaa
