/-
  The reference's automaton: what a node begins with, what follows a node, and the words behind a node.
-/
import Derived.Test.YtfkljlncnfeklaaGreatDoorPa
namespace Go.Proofs.YtfkljlncnfeklaaGreatDoor
set_option linter.unusedVariables false

/-- node k uses node i as its first, its second operand -/
def op1 (l : List Pn) (i k : Nat) : Bool := decide (1 ≤ arP (pk l k)) && decide (pa l k = (i : Int))
def op2 (l : List Pn) (i k : Nat) : Bool := decide (2 ≤ arP (pk l k)) && decide (pb l k = (i : Int))
/-- the first node from k on that uses node i; n: how many nodes are looked at -/
def parF (l : List Pn) (i : Nat) : Nat → Nat → Option Nat
  | 0, _ => none
  | n + 1, k => if op1 l i k || op2 l i k then some k else parF l i n (k + 1)
def parO (l : List Pn) (i : Nat) : Option Nat := parF l i (l.length - (i + 1)) (i + 1)
theorem parF_some {l : List Pn} {i : Nat} : ∀ {n k p : Nat}, parF l i n k = some p → k ≤ p ∧ p < k + n ∧ (op1 l i p || op2 l i p) = true ∧ ∀ j, k ≤ j → j < p → (op1 l i j || op2 l i j) = false
  | 0, k, p, h => by cases h
  | n + 1, k, p, h => by
    unfold parF at h
    split at h
    · next c =>
      injection h with h
      subst h
      exact ⟨Nat.le_refl _, by omega, c, fun j h1 h2 => by omega⟩
    · next c =>
      obtain ⟨h1, h2, h3, h4⟩ := parF_some h
      refine ⟨by omega, by omega, h3, fun j j1 j2 => ?_⟩
      rcases Nat.lt_or_ge k j with q | q
      · exact h4 j q j2
      · obtain rfl : j = k := by omega
        simpa using c
theorem parF_none {l : List Pn} {i : Nat} : ∀ {n k : Nat}, parF l i n k = none → ∀ j, k ≤ j → j < k + n → (op1 l i j || op2 l i j) = false
  | 0, k, h, j, h1, h2 => by omega
  | n + 1, k, h, j, h1, h2 => by
    unfold parF at h
    split at h
    · cases h
    · next c =>
      rcases Nat.lt_or_ge k j with q | q
      · exact parF_none h j q (by omega)
      · obtain rfl : j = k := by omega
        simpa using c
theorem parO_some {l : List Pn} {i p : Nat} (h : parO l i = some p) : i < p ∧ p < l.length ∧ (op1 l i p || op2 l i p) = true ∧ ∀ j, i < j → j < p → (op1 l i j || op2 l i j) = false := by
  obtain ⟨h1, h2, h3, h4⟩ := parF_some h
  exact ⟨h1, by omega, h3, fun j q => h4 j q⟩
/-- the words behind a node: how a match goes on when the node has been matched -/
def con (l : List Pn) : Nat → Nat → List UInt8 → Prop
  | 0, _, w => w = []
  | n + 1, i, w => match parO l i with
    | none => w = []
    | some k => if pk l k = 4 then ∃ u v, w = u ++ v ∧ Star (rxN l (pa l k).toNat).mt u ∧ con l n k v
        else if pk l k = 2 ∧ op1 l i k = true then ∃ u v, w = u ++ v ∧ (rxN l (pb l k).toNat).mt u ∧ con l n k v
        else con l n k w
theorem con_fuel {l : List Pn} : ∀ (n n' i : Nat), l.length ≤ i + n → l.length ≤ i + n' → ∀ w, con l n i w ↔ con l n' i w
  | 0, 0, i, _, _, w => Iff.rfl
  | 0, n' + 1, i, h, h', w => by
    have hp : parO l i = none := by unfold parO; rw [show l.length - (i + 1) = 0 by omega]; rfl
    rw [con, con, hp]
  | n + 1, 0, i, h, h', w => by
    have hp : parO l i = none := by unfold parO; rw [show l.length - (i + 1) = 0 by omega]; rfl
    rw [con, con, hp]
  | n + 1, n' + 1, i, h, h', w => by
    rw [con, con]
    rcases hp : parO l i with _ | k
    · exact Iff.rfl
    · obtain ⟨h1, h2, _, _⟩ := parO_some hp
      have ih := fun w => con_fuel (l := l) n n' k (by omega) (by omega) w
      simp only [ih]
/-- the words behind node i -/
def conN (l : List Pn) (i : Nat) (w : List UInt8) : Prop := con l (l.length - i) i w
theorem conN_none {l : List Pn} {i : Nat} (h : parO l i = none) (w : List UInt8) : conN l i w ↔ w = [] := by
  unfold conN
  rcases l.length - i with _ | n
  · exact Iff.rfl
  · rw [con, h]
theorem conN_some {l : List Pn} {i k : Nat} (h : parO l i = some k) (w : List UInt8) : conN l i w ↔ (if pk l k = 4 then ∃ u v, w = u ++ v ∧ Star (rxN l (pa l k).toNat).mt u ∧ conN l k v else if pk l k = 2 ∧ op1 l i k = true then ∃ u v, w = u ++ v ∧ (rxN l (pb l k).toNat).mt u ∧ conN l k v else conN l k w) := by
  obtain ⟨h1, h2, _, _⟩ := parO_some h
  have e : conN l i w ↔ con l (l.length - i - 1 + 1) i w := con_fuel _ _ i (by omega) (by omega) w
  rw [e, con, h]
  have ih : ∀ w, con l (l.length - i - 1) k w ↔ conN l k w := fun w => con_fuel _ _ k (by omega) (by omega) w
  simp only [ih]

/-! ### In a valid pattern each node but the last is used once -/
theorem us_step (f : List Fi) (i n : Nat) : us f i (n + 1) = us f i n + (if 1 ≤ ar (fo f n) ∧ fa f n = (i : Int) then 1 else 0) + (if ar (fo f n) = 2 ∧ fb f n = (i : Int) then 1 else 0) := rfl
theorem use_ph {l : List Pn} (i n : Nat) : us (l.map ph) i (n + 1) = us (l.map ph) i n + (if op1 l i n = true then 1 else 0) + (if op2 l i n = true then 1 else 0) := by
  rw [us_step, fo_ph, fa_ph, fb_ph]
  unfold op1 op2
  congr 2
  · simp
  · have h2 : arP (pk l n) = 2 ↔ 2 ≤ arP (pk l n) := by
      have : arP (pk l n) ≤ 2 := by unfold arP; repeat (split <;> try omega)
      omega
    simp [h2]
theorem use_zero {l : List Pn} {i : Nat} : ∀ n, us (l.map ph) i n = 0 → ∀ j, j < n → op1 l i j = false ∧ op2 l i j = false
  | 0, _, j, hj => by omega
  | n + 1, h, j, hj => by
    rw [use_ph] at h
    rcases Nat.lt_or_ge j n with q | q
    · exact use_zero n (by omega) j q
    · obtain rfl : j = n := by omega
      constructor
      · rcases h1 : op1 l i j with _ | _
        · rfl
        · rw [h1, if_pos rfl] at h; omega
      · rcases h1 : op2 l i j with _ | _
        · rfl
        · rw [h1] at h; simp at h
section
variable {l : List Pn}
theorem use_one (h : okP l) {i k : Nat} (hk : k < l.length) (hi : i < k) (hu : op1 l i k = true ∨ op2 l i k = true) : parO l i = some k ∧ ¬ (op1 l i k = true ∧ op2 l i k = true) := by
  have h1 := h.1.2.2.2 i (by rw [List.length_map]; omega)
  rw [List.length_map] at h1
  have h2 := us_mono (l.map ph) i (show k + 1 ≤ l.length by omega)
  rw [h1, use_ph] at h2
  have h3 : us (l.map ph) i k = 0 ∧ ¬ (op1 l i k = true ∧ op2 l i k = true) := by
    rcases c1 : op1 l i k with _ | _ <;> rcases c2 : op2 l i k with _ | _ <;> rw [c1, c2] at h2 hu <;> simp at h2 hu ⊢ <;> omega
  refine ⟨?_, h3.2⟩
  have hz := use_zero k h3.1
  rcases hp : parO l i with _ | p
  · have := parF_none hp k hi (by omega)
    rcases hu with q | q <;> rw [q] at this <;> simp at this
  · obtain ⟨p1, p2, p3, p4⟩ := parO_some hp
    rcases Nat.lt_trichotomy p k with q | q | q
    · have := hz p q
      rw [this.1, this.2] at p3
      cases p3
    · rw [q]
    · have := p4 k hi q
      rcases hu with r | r <;> rw [r] at this <;> simp at this
theorem par_root (h : 1 ≤ l.length) : parO l (l.length - 1) = none := by
  unfold parO
  rw [show l.length - (l.length - 1 + 1) = 0 by omega]
  rfl
theorem arP_2 {k : Int} (h : k = 2 ∨ k = 3) : arP k = 2 := by rcases h with h | h <;> subst h <;> rfl
/-- the words behind the operands -/
theorem con_seq1 (h : okP l) {k : Nat} (hk : k < l.length) (c : pk l k = 2) (w : List UInt8) : conN l (pa l k).toNat w ↔ ∃ u v, w = u ++ v ∧ (rxN l (pb l k).toNat).mt u ∧ conN l k v := by
  have ha := (h.nd hk).a1 (by omega)
  have ho : op1 l (pa l k).toNat k = true := by unfold op1; rw [c]; simp [arP]; omega
  obtain ⟨hp, _⟩ := use_one h hk ha.2 (.inl ho)
  rw [conN_some hp, if_neg (by omega), if_pos ⟨c, ho⟩]
theorem con_seq2 (h : okP l) {k : Nat} (hk : k < l.length) (c : pk l k = 2) (w : List UInt8) : conN l (pb l k).toNat w ↔ conN l k w := by
  have hb := (h.nd hk).b1 (.inl c)
  have ho : op2 l (pb l k).toNat k = true := by unfold op2; rw [c]; simp [arP]; omega
  obtain ⟨hp, hn⟩ := use_one h hk hb.2 (.inr ho)
  rw [conN_some hp, if_neg (by omega), if_neg (fun e => hn ⟨e.2, ho⟩)]
theorem con_alt1 (h : okP l) {k : Nat} (hk : k < l.length) (c : pk l k = 3) (w : List UInt8) : conN l (pa l k).toNat w ↔ conN l k w := by
  have ha := (h.nd hk).a1 (by omega)
  have ho : op1 l (pa l k).toNat k = true := by unfold op1; rw [c]; simp [arP]; omega
  obtain ⟨hp, hn⟩ := use_one h hk ha.2 (.inl ho)
  rw [conN_some hp, if_neg (by omega), if_neg (by omega)]
theorem con_alt2 (h : okP l) {k : Nat} (hk : k < l.length) (c : pk l k = 3) (w : List UInt8) : conN l (pb l k).toNat w ↔ conN l k w := by
  have hb := (h.nd hk).b1 (.inr c)
  have ho : op2 l (pb l k).toNat k = true := by unfold op2; rw [c]; simp [arP]; omega
  obtain ⟨hp, hn⟩ := use_one h hk hb.2 (.inr ho)
  rw [conN_some hp, if_neg (by omega), if_neg (by omega)]
theorem con_rep (h : okP l) {k : Nat} (hk : k < l.length) (c : pk l k = 4) (w : List UInt8) : conN l (pa l k).toNat w ↔ ∃ u v, w = u ++ v ∧ Star (rxN l (pa l k).toNat).mt u ∧ conN l k v := by
  have ha := (h.nd hk).a1 (by omega)
  have ho : op1 l (pa l k).toNat k = true := by unfold op1; rw [c]; simp [arP]; omega
  obtain ⟨hp, hn⟩ := use_one h hk ha.2 (.inl ho)
  rw [conN_some hp, if_pos c]

/-! ### What a node begins with -/
/-- leaf j is what node k can begin with -/
def fsB (l : List Pn) : Nat → Nat → Nat → Bool
  | 0, _, _ => false
  | n + 1, k, j =>
    if pk l k = 1 then decide (j = k) else
    if pk l k = 2 then fsB l n (pa l k).toNat j || ((rxN l (pa l k).toNat).nul && fsB l n (pb l k).toNat j) else
    if pk l k = 3 then fsB l n (pa l k).toNat j || fsB l n (pb l k).toNat j else
    if pk l k = 4 then fsB l n (pa l k).toNat j else false
/-- the word goes on with a byte of leaf j -/
def GoJ (l : List Pn) (S : Nat → Bool) (w : List UInt8) : Prop := ∃ j c v, S j = true ∧ w = c :: v ∧ plo l j ≤ (c.toNat : Int) ∧ (c.toNat : Int) ≤ phi l j ∧ conN l j v
theorem star_ne {P : List UInt8 → Prop} {u : List UInt8} (h : Star P u) : u = [] ∨ ∃ u1 u2, u = u1 ++ u2 ∧ u1 ≠ [] ∧ P u1 ∧ Star P u2 := by
  induction h with
  | nil => exact .inl rfl
  | @app u v hu hv ih =>
    by_cases c : u = []
    · rw [c, List.nil_append]; exact ih
    · exact .inr ⟨u, v, rfl, c, hu, hv⟩
theorem goj_or {S T : Nat → Bool} {w : List UInt8} : GoJ l (fun j => S j || T j) w ↔ GoJ l S w ∨ GoJ l T w := by
  constructor
  · rintro ⟨j, c, v, h, r⟩
    rcases Bool.or_eq_true_iff.1 h with h | h
    · exact .inl ⟨j, c, v, h, r⟩
    · exact .inr ⟨j, c, v, h, r⟩
  · rintro (⟨j, c, v, h, r⟩ | ⟨j, c, v, h, r⟩)
    · exact ⟨j, c, v, by simp [h], r⟩
    · exact ⟨j, c, v, by simp [h], r⟩
/-- the words of a node that are not empty, and what is behind it -/
theorem fs_ok (h : okP l) : ∀ n k, k < n → k < l.length → ∀ w, (∃ u v, w = u ++ v ∧ u ≠ [] ∧ (rxN l k).mt u ∧ conN l k v) ↔ GoJ l (fsB l n k) w
  | 0, k, h1, _, _ => by omega
  | n + 1, k, h1, hk, w => by
    have nd := h.nd hk
    rcases (show pk l k = 0 ∨ pk l k = 1 ∨ pk l k = 2 ∨ pk l k = 3 ∨ pk l k = 4 by have := nd.kd; omega) with c | c | c | c | c
    · rw [rxN_0 c]
      constructor
      · rintro ⟨u, v, _, hu, hm, _⟩
        exact absurd hm hu
      · rintro ⟨j, b, v, hj, _⟩
        rw [fsB, if_neg (by omega), if_neg (by omega), if_neg (by omega), if_neg (by omega)] at hj
        cases hj
    · rw [rxN_1 c]
      have hby := nd.by'
      constructor
      · rintro ⟨u, v, rfl, hu, ⟨b, rfl, b1, b2⟩, hv⟩
        exact ⟨k, b, v, by rw [fsB, if_pos c]; simp, rfl, by omega, by omega, hv⟩
      · rintro ⟨j, b, v, hj, rfl, b1, b2, hv⟩
        rw [fsB, if_pos c] at hj
        have hj := of_decide_eq_true hj
        subst hj
        exact ⟨[b], v, rfl, by simp, ⟨b, rfl, by omega, by omega⟩, hv⟩
    · have ha := nd.a1 (by omega)
      have hb := nd.b1 (.inl c)
      have ia := fs_ok h n (pa l k).toNat (by omega) (by omega)
      have ib := fs_ok h n (pb l k).toNat (by omega) (by omega)
      have ca := con_seq1 h hk c
      have cb := con_seq2 h hk c
      have e : fsB l (n + 1) k = fun j => fsB l n (pa l k).toNat j || ((rxN l (pa l k).toNat).nul && fsB l n (pb l k).toNat j) := by
        funext j
        rw [fsB, if_neg (by omega), if_pos c]
      rw [rxN_2 h hk c, e, goj_or]
      have hnul := (rxN l (pa l k).toNat).nul_mt
      constructor
      · rintro ⟨u, v, rfl, hu, ⟨u1, u2, rfl, m1, m2⟩, hv⟩
        by_cases q : u1 = []
        · subst q
          rw [List.nil_append] at hu ⊢
          obtain ⟨j, b, v', hj, r⟩ := (ib (u2 ++ v)).1 ⟨u2, v, rfl, hu, m2, (cb v).2 hv⟩
          exact .inr ⟨j, b, v', by simp [hnul.2 m1, hj], r⟩
        · exact .inl ((ia _).1 ⟨u1, u2 ++ v, by rw [List.append_assoc], q, m1, (ca _).2 ⟨u2, v, rfl, m2, hv⟩⟩)
      · rintro (q | ⟨j, b, v, hj, r⟩)
        · obtain ⟨u1, v1, rfl, q1, m1, q2⟩ := (ia w).2 q
          obtain ⟨u2, v, rfl, m2, hv⟩ := (ca v1).1 q2
          exact ⟨u1 ++ u2, v, by rw [List.append_assoc], by simp [q1], ⟨u1, u2, rfl, m1, m2⟩, hv⟩
        · simp only [Bool.and_eq_true] at hj
          obtain ⟨u2, v2, rfl, q1, m2, q2⟩ := (ib w).2 ⟨j, b, v, hj.2, r⟩
          exact ⟨u2, v2, rfl, q1, ⟨[], u2, rfl, hnul.1 hj.1, m2⟩, (cb v2).1 q2⟩
    · have ha := nd.a1 (by omega)
      have hb := nd.b1 (.inr c)
      have ia := fs_ok h n (pa l k).toNat (by omega) (by omega)
      have ib := fs_ok h n (pb l k).toNat (by omega) (by omega)
      have ca := con_alt1 h hk c
      have cb := con_alt2 h hk c
      have e : fsB l (n + 1) k = fun j => fsB l n (pa l k).toNat j || fsB l n (pb l k).toNat j := by
        funext j
        rw [fsB, if_neg (by omega), if_neg (by omega), if_pos c]
      rw [rxN_3 h hk c, e, goj_or]
      constructor
      · rintro ⟨u, v, rfl, hu, m | m, hv⟩
        · exact .inl ((ia _).1 ⟨u, v, rfl, hu, m, (ca v).2 hv⟩)
        · exact .inr ((ib _).1 ⟨u, v, rfl, hu, m, (cb v).2 hv⟩)
      · rintro (q | q)
        · obtain ⟨u, v, rfl, hu, m, hv⟩ := (ia w).2 q
          exact ⟨u, v, rfl, hu, .inl m, (ca v).1 hv⟩
        · obtain ⟨u, v, rfl, hu, m, hv⟩ := (ib w).2 q
          exact ⟨u, v, rfl, hu, .inr m, (cb v).1 hv⟩
    · have ha := nd.a1 (by omega)
      have ia := fs_ok h n (pa l k).toNat (by omega) (by omega)
      have ca := con_rep h hk c
      have e : fsB l (n + 1) k = fsB l n (pa l k).toNat := by
        funext j
        rw [fsB, if_neg (by omega), if_neg (by omega), if_neg (by omega), if_pos c]
      rw [rxN_4 h hk c, e, ← ia w]
      constructor
      · rintro ⟨u, v, rfl, hu, m, hv⟩
        rcases star_ne m with q | ⟨u1, u2, rfl, q1, m1, m2⟩
        · exact absurd q hu
        · exact ⟨u1, u2 ++ v, by rw [List.append_assoc], q1, m1, (ca _).2 ⟨u2, v, rfl, m2, hv⟩⟩
      · rintro ⟨u1, v1, rfl, q1, m1, hv⟩
        obtain ⟨u2, v, rfl, m2, hv⟩ := (ca v1).1 hv
        exact ⟨u1 ++ u2, v, by rw [List.append_assoc], by simp [q1], .app m1 m2, hv⟩
/-- the words of a node and what is behind it -/
theorem fs_all (h : okP l) {k : Nat} (hk : k < l.length) (w : List UInt8) : (∃ u v, w = u ++ v ∧ (rxN l k).mt u ∧ conN l k v) ↔ ((rxN l k).nul = true ∧ conN l k w) ∨ GoJ l (fsB l (k + 1) k) w := by
  rw [← fs_ok h (k + 1) k (by omega) hk w, (rxN l k).nul_mt]
  constructor
  · rintro ⟨u, v, rfl, m, hv⟩
    by_cases q : u = []
    · subst q
      exact .inl ⟨m, hv⟩
    · exact .inr ⟨u, v, rfl, q, m, hv⟩
  · rintro (⟨m, hv⟩ | ⟨u, v, rfl, _, m, hv⟩)
    · exact ⟨[], w, rfl, m, hv⟩
    · exact ⟨u, v, rfl, m, hv⟩

/-! ### What follows a node -/
/-- leaf j is what can follow node i; whether the end can -/
def lsB (l : List Pn) : Nat → Nat → Nat → Bool
  | 0, _, _ => false
  | n + 1, i, j => match parO l i with
    | none => false
    | some k => if pk l k = 4 then fsB l (k + 1) k j || lsB l n k j else
        if pk l k = 2 ∧ op1 l i k = true then fsB l ((pb l k).toNat + 1) (pb l k).toNat j || ((rxN l (pb l k).toNat).nul && lsB l n k j) else lsB l n k j
def leB (l : List Pn) : Nat → Nat → Bool
  | 0, _ => true
  | n + 1, i => match parO l i with
    | none => true
    | some k => if pk l k = 2 ∧ op1 l i k = true then (rxN l (pb l k).toNat).nul && leB l n k else leB l n k
theorem ls_ok (h : okP l) : ∀ n i, i < l.length → l.length ≤ i + n → ∀ w, conN l i w ↔ (leB l n i = true ∧ w = []) ∨ GoJ l (lsB l n i) w
  | 0, i, h1, h2, w => by omega
  | n + 1, i, hi, hn, w => by
    rcases hp : parO l i with _ | k
    · rw [conN_none hp, leB, hp]
      constructor
      · exact fun e => .inl ⟨rfl, e⟩
      · rintro (⟨_, e⟩ | ⟨j, c, v, hj, _⟩)
        · exact e
        · rw [lsB, hp] at hj; cases hj
    · obtain ⟨p1, p2, p3, p4⟩ := parO_some hp
      have ih := ls_ok h n k p2 (by omega)
      have nd := h.nd p2
      rw [conN_some hp, leB, hp]
      dsimp only
      by_cases c4 : pk l k = 4
      · have e : lsB l (n + 1) i = fun j => fsB l (k + 1) k j || lsB l n k j := by
          funext j
          rw [lsB, hp]
          dsimp only
          rw [if_pos c4]
        rw [if_pos c4, if_neg (by omega), e, goj_or]
        have hf := fs_all h p2 w
        rw [rxN_4 h p2 c4] at hf
        rw [← rxN_4 h p2 c4] at hf
        have hs : (∃ u v, w = u ++ v ∧ Star (rxN l (pa l k).toNat).mt u ∧ conN l k v) ↔ (∃ u v, w = u ++ v ∧ (rxN l k).mt u ∧ conN l k v) := by rw [rxN_4 h p2 c4]; exact Iff.rfl
        rw [hs, hf, ih w]
        have hnu : (rxN l k).nul = true := by rw [rxN_4 h p2 c4]; rfl
        rw [hnu]
        constructor
        · rintro (⟨_, q | q⟩ | q)
          · exact .inl q
          · exact .inr (.inr q)
          · exact .inr (.inl q)
        · rintro (q | q | q)
          · exact .inl ⟨rfl, .inl q⟩
          · exact .inr q
          · exact .inl ⟨rfl, .inr q⟩
      · rw [if_neg c4]
        by_cases c2 : pk l k = 2 ∧ op1 l i k = true
        · have hb := nd.b1 (.inl c2.1)
          have e : lsB l (n + 1) i = fun j => fsB l ((pb l k).toNat + 1) (pb l k).toNat j || ((rxN l (pb l k).toNat).nul && lsB l n k j) := by
            funext j
            rw [lsB, hp]
            dsimp only
            rw [if_neg c4, if_pos c2]
          rw [if_pos c2, if_pos c2, e, goj_or]
          have hf := fs_all h (k := (pb l k).toNat) (by omega) w
          have cb := con_seq2 h p2 c2.1
          have hs : (∃ u v, w = u ++ v ∧ (rxN l (pb l k).toNat).mt u ∧ conN l k v) ↔ (∃ u v, w = u ++ v ∧ (rxN l (pb l k).toNat).mt u ∧ conN l (pb l k).toNat v) := by simp only [cb]
          rw [hs, hf, cb w, ih w]
          rcases (rxN l (pb l k).toNat).nul with _ | _
          · constructor
            · rintro (⟨q, _⟩ | q)
              · cases q
              · exact .inr (.inl q)
            · rintro (⟨q, _⟩ | q | ⟨j, c, v, hj, _⟩)
              · cases q
              · exact .inr q
              · cases hj
          · constructor
            · rintro (⟨_, q | q⟩ | q)
              · exact .inl ⟨by rw [q.1]; rfl, q.2⟩
              · exact .inr (.inr q)
              · exact .inr (.inl q)
            · rintro (q | q | q)
              · exact .inl ⟨rfl, .inl ⟨by simpa using q.1, q.2⟩⟩
              · exact .inr q
              · exact .inl ⟨rfl, .inr q⟩
        · have e : lsB l (n + 1) i = lsB l n k := by
            funext j
            rw [lsB, hp]
            dsimp only
            rw [if_neg c4, if_neg c2]
          rw [if_neg c2, if_neg c2, e]
          exact ih w
end

end Go.Proofs.YtfkljlncnfeklaaGreatDoor
