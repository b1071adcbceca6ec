/-
  Plain mathematics of binary digits: the bits of a list of limbs, the number of a list of bits, long division in the binary system.
-/
import Derived.Test.YtogmgomcdhfolaaNum
namespace Go.Proofs.Ytogmgomcdhfolaa
namespace Nb
open Nt

/-- the number of a list of bits, the least significant first -/
def bval : List Nat → Nat
  | [] => 0
  | x :: xs => x + 2 * bval xs
/-- every bit is 0 or 1 -/
def Wb (l : List Nat) : Prop := ∀ x ∈ l, x < 2

theorem bval_nil : bval [] = 0 := rfl
theorem bval_cons (x : Nat) (l : List Nat) : bval (x :: l) = x + 2 * bval l := rfl
theorem wb_nil : Wb [] := by intro x hx; cases hx
theorem wb_cons {x : Nat} {l : List Nat} : Wb (x :: l) ↔ x < 2 ∧ Wb l := by unfold Wb; simp
theorem wb_append {l m : List Nat} : Wb (l ++ m) ↔ Wb l ∧ Wb m := by
  unfold Wb; simp only [List.mem_append]
  exact ⟨fun h => ⟨fun x hx => h x (.inl hx), fun x hx => h x (.inr hx)⟩, fun h x hx => hx.elim (h.1 x) (h.2 x)⟩
theorem Wb.take {l : List Nat} (h : Wb l) (n : Nat) : Wb (l.take n) := fun x hx => h x (List.mem_of_mem_take hx)
theorem Wb.drop {l : List Nat} (h : Wb l) (n : Nat) : Wb (l.drop n) := fun x hx => h x (List.mem_of_mem_drop hx)
theorem Wb.getD {l : List Nat} (h : Wb l) (i : Nat) : l.getD i 0 < 2 := by
  rw [List.getD_eq_getElem?_getD]
  rcases Nat.lt_or_ge i l.length with hi | hi
  · rw [List.getElem?_eq_getElem hi]; exact h _ (List.getElem_mem hi)
  · rw [List.getElem?_eq_none hi]; simp
theorem wb_replicate (n : Nat) : Wb (List.replicate n 0) := by
  intro x hx; have := List.eq_of_mem_replicate hx; omega
theorem bval_append (l m : List Nat) : bval (l ++ m) = bval l + 2 ^ l.length * bval m := by
  induction l with
  | nil => simp [bval]
  | cons x l ih =>
    rw [List.cons_append, bval_cons, ih, bval_cons, List.length_cons, Nat.pow_succ, Nat.mul_add, Nat.mul_comm (2 ^ l.length) 2, Nat.mul_assoc 2]
    omega
theorem bval_replicate (n : Nat) : bval (List.replicate n 0) = 0 := by
  induction n with
  | zero => rfl
  | succ n ih => rw [List.replicate_succ, bval_cons, ih]
theorem bval_lt {l : List Nat} (h : Wb l) : bval l < 2 ^ l.length := by
  induction l with
  | nil => simp [bval]
  | cons x l ih =>
    obtain ⟨hx, hl⟩ := wb_cons.1 h
    have := ih hl
    rw [bval_cons, List.length_cons, Nat.pow_succ]
    omega

/-- the first k bits of a limb -/
def lb (x : Nat) : Nat → List Nat
  | 0 => []
  | k + 1 => lb x k ++ [x / 2 ^ k % 2]
theorem lb_len (x k : Nat) : (lb x k).length = k := by
  induction k with
  | zero => rfl
  | succ k ih => simp [lb, ih]
theorem lb_wb (x k : Nat) : Wb (lb x k) := by
  induction k with
  | zero => exact wb_nil
  | succ k ih => exact wb_append.2 ⟨ih, wb_cons.2 ⟨Nat.mod_lt _ (by omega), wb_nil⟩⟩
theorem lb_val (x k : Nat) : bval (lb x k) = x % 2 ^ k := by
  induction k with
  | zero => simp [lb, bval, Nat.mod_one]
  | succ k ih =>
    rw [lb, bval_append, ih, lb_len, bval_cons, bval_nil, Nat.mul_zero, Nat.add_zero, Nat.pow_succ, Nat.mod_mul]
/-- the bits of a list of limbs -/
def bits : List Nat → List Nat
  | [] => []
  | x :: l => lb x 32 ++ bits l
theorem bits_len (l : List Nat) : (bits l).length = 32 * l.length := by
  induction l with
  | nil => rfl
  | cons x l ih => simp [bits, lb_len, ih]; omega
theorem bits_wb (l : List Nat) : Wb (bits l) := by
  induction l with
  | nil => exact wb_nil
  | cons x l ih => exact wb_append.2 ⟨lb_wb x 32, ih⟩
theorem bits_val {l : List Nat} (h : Wf l) : bval (bits l) = val l := by
  induction l with
  | nil => rfl
  | cons x l ih =>
    obtain ⟨hx, hl⟩ := wf_cons.1 h
    rw [bits, bval_append, lb_val, lb_len, ih hl, val_cons, Nat.mod_eq_of_lt (show x < 2 ^ 32 from hx)]
theorem bits_append (l m : List Nat) : bits (l ++ m) = bits l ++ bits m := by
  induction l with
  | nil => rfl
  | cons x l ih => simp [bits, ih]
theorem bits_snoc (l : List Nat) (x : Nat) : bits (l ++ [x]) = bits l ++ lb x 32 := by
  rw [bits_append]; simp [bits]

/-- one step of the division: the next bit comes down -/
theorem div_step2 {A b q r x : Nat} (h : A = b * q + r) : x + 2 * A = b * (2 * q) + (x + 2 * r) := by
  rw [h, Nat.mul_add, Nat.mul_left_comm]; omega
theorem div_step1 {A b q r x : Nat} (h : A = b * q + r) (hb : b ≤ x + 2 * r) : x + 2 * A = b * (1 + 2 * q) + (x + 2 * r - b) := by
  rw [h, Nat.mul_add, Nat.mul_add, Nat.mul_left_comm]; omega

/-- the division's state: k bits are still to come -/
structure DivInv (l : List Nat) (b k : Nat) (Q R : List Nat) : Prop where
  qlen : Q.length = l.length
  qwb : Wb Q
  zero : Q.take k = List.replicate k 0
  rwb : Wb R
  lt : bval R < b
  eq : bval (l.drop k) = b * bval (Q.drop k) + bval R
theorem DivInv.start {l : List Nat} {b : Nat} (hb : 0 < b) : DivInv l b l.length (List.replicate l.length 0) [] :=
  ⟨by simp, wb_replicate _, by simp, wb_nil, hb, by simp [bval]⟩
theorem drop_cons {l : List Nat} {t : Nat} (ht : t < l.length) : l.drop t = l.getD t 0 :: l.drop (t + 1) := by
  rw [List.drop_eq_getElem_cons ht, List.getD_eq_getElem?_getD, List.getElem?_eq_getElem ht]; rfl
theorem DivInv.down {l : List Nat} {b t : Nat} {Q R : List Nat} (h : DivInv l b (t + 1) Q R) (ht : t < l.length) (hlt : bval (l.getD t 0 :: R) < b) (hl : Wb l) :
    DivInv l b t Q (l.getD t 0 :: R) := by
  have hq : Q.getD t 0 = 0 := by
    have h1 : (Q.take (t + 1))[t]? = (List.replicate (t + 1) 0)[t]? := by rw [h.zero]
    rw [List.getElem?_take, if_pos (by omega), List.getElem?_replicate, if_pos (by omega)] at h1
    rw [List.getD_eq_getElem?_getD, h1]; rfl
  refine ⟨h.qlen, h.qwb, ?_, wb_cons.2 ⟨hl.getD t, h.rwb⟩, hlt, ?_⟩
  · have h1 : (Q.take (t + 1)).take t = (List.replicate (t + 1) 0).take t := by rw [h.zero]
    rw [List.take_take, Nat.min_eq_left (by omega), List.take_replicate, Nat.min_eq_left (by omega)] at h1
    exact h1
  · rw [drop_cons ht, drop_cons (l := Q) (t := t) (by rw [h.qlen]; exact ht), hq, bval_cons, bval_cons, bval_cons, Nat.zero_add]
    exact div_step2 h.eq
theorem DivInv.sub {l : List Nat} {b t : Nat} {Q R R' : List Nat} (h : DivInv l b (t + 1) Q R) (ht : t < l.length) (hge : b ≤ bval (l.getD t 0 :: R)) (hr : bval R' = bval (l.getD t 0 :: R) - b) (hw : Wb R') (hl : Wb l) :
    DivInv l b t (Q.set t 1) R' := by
  have hql := h.qlen
  have hx := hl.getD t
  have hlt := h.lt
  rw [bval_cons] at hge hr
  refine ⟨by simp [hql], ?_, ?_, hw, by omega, ?_⟩
  · intro x hx
    rcases List.mem_or_eq_of_mem_set hx with h1 | h1
    · exact h.qwb x h1
    · omega
  · have h1 : (Q.take (t + 1)).take t = (List.replicate (t + 1) 0).take t := by rw [h.zero]
    rw [List.take_take, Nat.min_eq_left (by omega), List.take_replicate, Nat.min_eq_left (by omega)] at h1
    rw [List.take_set_of_le (Nat.le_refl _)]
    exact h1
  · have e1 : (Q.set t 1).drop (t + 1) = Q.drop (t + 1) := List.drop_set_of_lt (by omega)
    have e2 : (Q.set t 1).getD t 0 = 1 := by
      rw [List.getD_eq_getElem?_getD, List.getElem?_set_self (by omega)]; rfl
    rw [drop_cons ht, drop_cons (l := Q.set t 1) (t := t) (by simp; omega), e1, e2, bval_cons, bval_cons, hr]
    exact div_step1 h.eq hge
theorem DivInv.done {l : List Nat} {b : Nat} {Q R : List Nat} (h : DivInv l b 0 Q R) : bval Q = bval l / b ∧ bval R = bval l % b := by
  have e := h.eq
  have hlt := h.lt
  simp only [List.drop_zero] at e
  have hb : 0 < b := by omega
  rw [e]
  constructor
  · rw [Nat.mul_add_div hb, Nat.div_eq_of_lt hlt, Nat.add_zero]
  · rw [Nat.mul_add_mod, Nat.mod_eq_of_lt hlt]

end Nb
end Go.Proofs.Ytogmgomcdhfolaa
