/-
  The loops' invariants, as plain mathematics: sums, differences and multiples of lists of limbs.
-/
import Derived.Test.YtogmgomcdhfolaaLeaf
namespace Go.Proofs.Ytogmgomcdhfolaa
open Nt

theorem nth_take {l : List Nat} {k j : Nat} (h : j < k) : nth (l.take k) j = nth l j := by
  unfold nth; rw [List.getD_eq_getElem?_getD, List.getD_eq_getElem?_getD, List.getElem?_take, if_pos h]
theorem nth_drop (l : List Nat) (o j : Nat) : nth (l.drop o) j = nth l (o + j) := by
  unfold nth; rw [List.getD_eq_getElem?_getD, List.getD_eq_getElem?_getD, List.getElem?_drop]
theorem nth_sub {l : List Nat} {o n j : Nat} (h : j < n) : nth ((l.drop o).take n) j = nth l (o + j) := by rw [nth_take h, nth_drop]
theorem nth_ge {l : List Nat} {k : Nat} (h : l.length ≤ k) : nth l k = 0 := by
  unfold nth; rw [List.getD_eq_getElem?_getD, List.getElem?_eq_none h]; rfl
theorem take_step (l : List Nat) (k : Nat) : val (l.take (k + 1)) = val (l.take k) + 4294967296 ^ k * nth l k := by
  rcases Nat.lt_or_ge k l.length with h | h
  · exact val_take_succ h
  · rw [nth_ge h, List.take_of_length_le (by omega), List.take_of_length_le (by omega)]; simp

theorem splice_zero (L : List Nat) (o : Nat) : splice L o [] = L := by unfold splice; simp
theorem length_spl {L X : List Nat} {o : Nat} (h : o + X.length ≤ L.length) : (splice L o X).length = L.length := length_splice L o X h
theorem nth_spl {L X : List Nat} {o j : Nat} (h : o + X.length ≤ L.length) (hj : o + X.length ≤ j) : nth (splice L o X) j = nth L j := by
  unfold nth splice
  rw [List.getD_eq_getElem?_getD, List.getD_eq_getElem?_getD, List.getElem?_append_right (by simp; omega), List.getElem?_append_right (by simp; omega), List.getElem?_drop]
  congr 2
  simp
  omega
theorem nth_spl_in {L X : List Nat} {o j : Nat} (h : o + X.length ≤ L.length) (hj : j < X.length) : nth (splice L o X) (o + j) = nth X j := by
  unfold nth splice
  rw [List.getD_eq_getElem?_getD, List.getD_eq_getElem?_getD, List.getElem?_append_right (by simp; omega), List.getElem?_append_left (by simp; omega)]
  congr 2
  simp
  omega
theorem nth_spl_before {L X : List Nat} {o j : Nat} (h : o + X.length ≤ L.length) (hj : j < o) : nth (splice L o X) j = nth L j := by
  unfold nth splice
  rw [List.getD_eq_getElem?_getD, List.getD_eq_getElem?_getD, List.getElem?_append_left (by simp; omega), List.getElem?_take, if_pos hj]
theorem spl_set {L X : List Nat} {o : Nat} (x : Nat) (h : o + X.length < L.length) : (splice L o X).set (o + X.length) x = splice L o (X ++ [x]) := by
  unfold splice
  rw [List.set_append_right _ _ (by simp; omega)]
  have e : o + X.length - (L.take o).length = X.length := by simp; omega
  rw [e, List.set_append_right _ _ (Nat.le_refl _), Nat.sub_self]
  rw [List.drop_eq_getElem_cons h, List.set_cons_zero]
  simp [Nat.add_assoc]

/-- after k limbs of a sum -/
structure AddInv (S M : List Nat) (k : Nat) (X : List Nat) (c : Nat) : Prop where
  len : X.length = k
  wf : Wf X
  c1 : c ≤ 1
  eq : val X + 4294967296 ^ k * c = val (S.take k) + val (M.take k)
theorem AddInv.start (S M : List Nat) : AddInv S M 0 [] 0 := ⟨rfl, wf_nil, by omega, by simp [val]⟩
theorem AddInv.step {S M : List Nat} {k : Nat} {X : List Nat} {c : Nat} (h : AddInv S M k X c) (hS : Wf S) (hM : Wf M) :
    AddInv S M (k + 1) (X ++ [(nth S k + nth M k + c) % 4294967296]) ((nth S k + nth M k + c) / 4294967296) := by
  have h1 := nth_lt hS k
  have h2 := nth_lt hM k
  have h3 := h.c1
  refine ⟨by simp [h.len], wf_append.2 ⟨h.wf, wf_cons.2 ⟨by omega, wf_nil⟩⟩, by omega, ?_⟩
  rw [val_snoc, h.len, take_step, take_step, Nat.pow_succ]
  exact add_step h.eq
/-- the carry stays away: the rest of S is left as it is -/
theorem AddInv.done {S M : List Nat} {k : Nat} {X : List Nat} {c : Nat} (h : AddInv S M k X c) (hS : Wf S) (hk : k ≤ S.length) (hm : M.length ≤ k) (hc : c = 0 ∨ k = S.length) :
    (X ++ S.drop k).length = S.length ∧ Wf (X ++ S.drop k) ∧ val (X ++ S.drop k) + 4294967296 ^ S.length * c = val S + val M := by
  have e : val S = val (S.take k) + 4294967296 ^ k * val (S.drop k) := by
    conv => lhs; rw [← List.take_append_drop k S]
    rw [val_append, List.length_take, Nat.min_eq_left hk]
  have q := h.eq
  rw [List.take_of_length_le hm] at q
  refine ⟨by simp [h.len]; omega, wf_append.2 ⟨h.wf, hS.drop k⟩, ?_⟩
  rw [val_append, h.len, e]
  rcases hc with rfl | rfl
  · simp at q ⊢; omega
  · simp [val] at q ⊢; omega

/-- after k limbs of a difference -/
structure SubInv (S M : List Nat) (k : Nat) (X : List Nat) (c : Nat) : Prop where
  len : X.length = k
  wf : Wf X
  c1 : c ≤ 1
  eq : val X + val (M.take k) = val (S.take k) + 4294967296 ^ k * c
theorem SubInv.start (S M : List Nat) : SubInv S M 0 [] 0 := ⟨rfl, wf_nil, by omega, by simp [val]⟩
theorem SubInv.step {S M : List Nat} {k : Nat} {X : List Nat} {c : Nat} (h : SubInv S M k X c) (hS : Wf S) (hM : Wf M) :
    SubInv S M (k + 1) (X ++ [dif (nth S k) (nth M k) c]) (brw (nth S k) (nth M k) c) := by
  have h1 := nth_lt hS k
  have h2 := nth_lt hM k
  have h3 := h.c1
  refine ⟨by simp [h.len], wf_append.2 ⟨h.wf, wf_cons.2 ⟨dif_lt _ _ _, wf_nil⟩⟩, brw_le _ _ _, ?_⟩
  rw [val_snoc, h.len, take_step, take_step, Nat.pow_succ]
  exact sub_step h.eq (dif_brw h1 h2 h3)
theorem SubInv.done {S M : List Nat} {k : Nat} {X : List Nat} {c : Nat} (h : SubInv S M k X c) (hS : Wf S) (hk : k ≤ S.length) (hm : M.length ≤ k) (hc : c = 0 ∨ k = S.length) :
    (X ++ S.drop k).length = S.length ∧ Wf (X ++ S.drop k) ∧ val (X ++ S.drop k) + val M = val S + 4294967296 ^ S.length * c := by
  have e : val S = val (S.take k) + 4294967296 ^ k * val (S.drop k) := by
    conv => lhs; rw [← List.take_append_drop k S]
    rw [val_append, List.length_take, Nat.min_eq_left hk]
  have q := h.eq
  rw [List.take_of_length_le hm] at q
  refine ⟨by simp [h.len]; omega, wf_append.2 ⟨h.wf, hS.drop k⟩, ?_⟩
  rw [val_append, h.len, e]
  rcases hc with rfl | rfl
  · simp at q ⊢; omega
  · simp [val] at q ⊢; omega

/-- after k limbs of a multiple that is added -/
structure MulInv (S M : List Nat) (f k : Nat) (X : List Nat) (c : Nat) : Prop where
  len : X.length = k
  wf : Wf X
  c1 : c ≤ 4294967295
  eq : val X + 4294967296 ^ k * c = val (S.take k) + f * val (M.take k)
theorem MulInv.start (S M : List Nat) (f : Nat) : MulInv S M f 0 [] 0 := ⟨rfl, wf_nil, by omega, by simp [val]⟩
theorem mul_bound {x f : Nat} (hx : x < 4294967296) (hf : f < 4294967296) : x * f ≤ 18446744065119617025 :=
  Nat.le_trans (Nat.mul_le_mul (show x ≤ 4294967295 by omega) (show f ≤ 4294967295 by omega)) (by omega)
theorem MulInv.step {S M : List Nat} {f k : Nat} {X : List Nat} {c : Nat} (h : MulInv S M f k X c) (hS : Wf S) (hM : Wf M) (hf : f < 4294967296) :
    MulInv S M f (k + 1) (X ++ [(nth M k * f + nth S k + c) % 4294967296]) ((nth M k * f + nth S k + c) / 4294967296) := by
  have h1 := nth_lt hS k
  have h2 := nth_lt hM k
  have h3 := h.c1
  have h4 := mul_bound h2 hf
  refine ⟨by simp [h.len], wf_append.2 ⟨h.wf, wf_cons.2 ⟨by omega, wf_nil⟩⟩, by omega, ?_⟩
  rw [val_snoc, h.len, take_step, take_step, Nat.pow_succ]
  exact mul_step h.eq

end Go.Proofs.Ytogmgomcdhfolaa
