/-
  The reference's automaton as it reckons, and its search for the first string of two patterns.
-/
import Derived.Test.YtfkljlncnfeklaaGreatDoorPQeM
import Derived.Test.YtfkljlncnfeklaaGreatDoorPQbM
import Derived.Test.YtfkljlncnfeklaaGreatDoorPa
namespace Go.Proofs.YtfkljlncnfeklaaGreatDoor
set_option linter.unusedVariables false

/-- a state: whether the whole is matched, and the leaves that can come next -/
abbrev Stt := Bool × List Bool
/-- enter -/
def enR (l : List Pn) : Nat → Nat → List Bool → Bool × List Bool
  | 0, _, s => (true, s)
  | n + 1, k, s =>
    if pk l k = 0 then (true, s) else
    if pk l k = 1 then (false, s.set k true) else
    if pk l k = 2 then (if (enR l n (pa l k).toNat s).1 = true then enR l n (pb l k).toNat (enR l n (pa l k).toNat s).2 else (false, (enR l n (pa l k).toNat s).2)) else
    if pk l k = 3 then ((enR l n (pa l k).toNat s).1 || (enR l n (pb l k).toNat (enR l n (pa l k).toNat s).2).1, (enR l n (pb l k).toNat (enR l n (pa l k).toNat s).2).2) else
    (true, (enR l n (pa l k).toNat s).2)
/-- leave -/
def leR (l : List Pn) : Nat → Nat → List Bool → Bool × List Bool
  | 0, _, s => (true, s)
  | n + 1, i, s => match parO l i with
    | none => (true, s)
    | some k => if pk l k = 4 then leR l n k (enR l (k + 1) k s).2 else
        if pk l k = 2 ∧ op1 l i k = true then (if (enR l ((pb l k).toNat + 1) (pb l k).toNat s).1 = true then leR l n k (enR l ((pb l k).toNat + 1) (pb l k).toNat s).2 else (false, (enR l ((pb l k).toNat + 1) (pb l k).toNat s).2)) else leR l n k s
theorem getD_set (s : List Bool) (k j : Nat) : (s.set k true).getD j false = (s.getD j false || (decide (j = k) && decide (k < s.length))) := by
  rw [List.getD_eq_getElem?_getD, List.getD_eq_getElem?_getD, List.getElem?_set]
  by_cases h : k = j
  · subst h
    by_cases h2 : k < s.length
    · simp [h2]
    · simp [h2]
  · have : ¬ j = k := fun e => h e.symm
    simp [h, this]
section
variable {l : List Pn}
theorem enR_ok (h : okP l) : ∀ n k, k < n → k < l.length → ∀ s : List Bool, s.length = l.length → (enR l n k s).1 = (rxN l k).nul ∧ (enR l n k s).2.length = l.length ∧ ∀ j, (enR l n k s).2.getD j false = (s.getD j false || fsB l n k j)
  | 0, k, h1, _, _, _ => by omega
  | n + 1, k, h1, hk, s, hs => by
    have nd := h.nd hk
    rcases (show pk l k = 0 ∨ pk l k = 1 ∨ pk l k = 2 ∨ pk l k = 3 ∨ pk l k = 4 by have := nd.kd; omega) with c | c | c | c | c
    · have e : enR l (n + 1) k s = (true, s) := by rw [enR, if_pos c]
      rw [e, rxN_0 c]
      refine ⟨rfl, hs, fun j => ?_⟩
      rw [fsB, if_neg (by omega), if_neg (by omega), if_neg (by omega), if_neg (by omega), Bool.or_false]
    · have e : enR l (n + 1) k s = (false, s.set k true) := by rw [enR, if_neg (by omega), if_pos c]
      rw [e, rxN_1 c]
      refine ⟨rfl, by rw [List.length_set]; exact hs, fun j => ?_⟩
      show (s.set k true).getD j false = _
      rw [getD_set, fsB, if_pos c, hs, decide_eq_true hk, Bool.and_true]
    · have ha := nd.a1 (by omega)
      have hb := nd.b1 (.inl c)
      obtain ⟨a1, a2, a3⟩ := enR_ok h n (pa l k).toNat (by omega) (by omega) s hs
      obtain ⟨b1, b2, b3⟩ := enR_ok h n (pb l k).toNat (by omega) (by omega) (enR l n (pa l k).toNat s).2 a2
      rw [rxN_2 h hk c]
      have e : enR l (n + 1) k s = (if (enR l n (pa l k).toNat s).1 = true then enR l n (pb l k).toNat (enR l n (pa l k).toNat s).2 else (false, (enR l n (pa l k).toNat s).2)) := by rw [enR, if_neg (by omega), if_neg (by omega), if_pos c]
      have hf : ∀ j, fsB l (n + 1) k j = (fsB l n (pa l k).toNat j || ((rxN l (pa l k).toNat).nul && fsB l n (pb l k).toNat j)) := fun j => by rw [fsB, if_neg (by omega), if_pos c]
      rw [a1] at e
      show (enR l (n + 1) k s).1 = ((rxN l (pa l k).toNat).nul && (rxN l (pb l k).toNat).nul) ∧ _
      rcases hn : (rxN l (pa l k).toNat).nul with _ | _
      · rw [hn, if_neg (by decide)] at e
        rw [e]
        refine ⟨rfl, a2, fun j => ?_⟩
        rw [hf, hn, Bool.false_and, Bool.or_false]
        exact a3 j
      · rw [hn, if_pos rfl] at e
        rw [e]
        refine ⟨by rw [b1]; rfl, b2, fun j => ?_⟩
        rw [hf, hn, b3, a3]
        simp [Bool.or_assoc]
    · have ha := nd.a1 (by omega)
      have hb := nd.b1 (.inr c)
      obtain ⟨a1, a2, a3⟩ := enR_ok h n (pa l k).toNat (by omega) (by omega) s hs
      obtain ⟨b1, b2, b3⟩ := enR_ok h n (pb l k).toNat (by omega) (by omega) (enR l n (pa l k).toNat s).2 a2
      rw [rxN_3 h hk c]
      have e : enR l (n + 1) k s = ((enR l n (pa l k).toNat s).1 || (enR l n (pb l k).toNat (enR l n (pa l k).toNat s).2).1, (enR l n (pb l k).toNat (enR l n (pa l k).toNat s).2).2) := by rw [enR, if_neg (by omega), if_neg (by omega), if_neg (by omega), if_pos c]
      have hf : ∀ j, fsB l (n + 1) k j = (fsB l n (pa l k).toNat j || fsB l n (pb l k).toNat j) := fun j => by rw [fsB, if_neg (by omega), if_neg (by omega), if_pos c]
      rw [e]
      refine ⟨by rw [a1, b1]; rfl, b2, fun j => ?_⟩
      rw [hf, b3, a3]
      simp [Bool.or_assoc]
    · have ha := nd.a1 (by omega)
      obtain ⟨a1, a2, a3⟩ := enR_ok h n (pa l k).toNat (by omega) (by omega) s hs
      rw [rxN_4 h hk c]
      have e : enR l (n + 1) k s = (true, (enR l n (pa l k).toNat s).2) := by rw [enR, if_neg (by omega), if_neg (by omega), if_neg (by omega), if_neg (by omega)]
      have hf : ∀ j, fsB l (n + 1) k j = fsB l n (pa l k).toNat j := fun j => by rw [fsB, if_neg (by omega), if_neg (by omega), if_neg (by omega), if_pos c]
      rw [e]
      exact ⟨rfl, a2, fun j => by rw [hf, a3]⟩
theorem leR_ok (h : okP l) : ∀ n i, i < l.length → l.length ≤ i + n → ∀ s : List Bool, s.length = l.length → (leR l n i s).1 = leB l n i ∧ (leR l n i s).2.length = l.length ∧ ∀ j, (leR l n i s).2.getD j false = (s.getD j false || lsB l n i j)
  | 0, i, h1, h2, _, _ => by omega
  | n + 1, i, hi, hn, s, hs => by
    rcases hp : parO l i with _ | k
    · have e : leR l (n + 1) i s = (true, s) := by rw [leR, hp]
      rw [e, leB, hp]
      exact ⟨rfl, hs, fun j => by rw [lsB, hp]; simp⟩
    · obtain ⟨p1, p2, p3, p4⟩ := parO_some hp
      have nd := h.nd p2
      rw [leB, leR, hp]
      dsimp only
      by_cases c4 : pk l k = 4
      · obtain ⟨a1, a2, a3⟩ := enR_ok h (k + 1) k (by omega) p2 s hs
        obtain ⟨b1, b2, b3⟩ := leR_ok h n k p2 (by omega) _ a2
        rw [if_pos c4, if_neg (by omega)]
        refine ⟨b1, b2, fun j => ?_⟩
        rw [lsB, hp]
        dsimp only
        rw [if_pos c4, b3, a3, Bool.or_assoc]
      · rw [if_neg c4]
        by_cases c2 : pk l k = 2 ∧ op1 l i k = true
        · have hb := nd.b1 (.inl c2.1)
          obtain ⟨a1, a2, a3⟩ := enR_ok h ((pb l k).toNat + 1) (pb l k).toNat (by omega) (by omega) s hs
          obtain ⟨b1, b2, b3⟩ := leR_ok h n k p2 (by omega) _ a2
          rw [if_pos c2, if_pos c2, a1]
          have hf : ∀ j, lsB l (n + 1) i j = (fsB l ((pb l k).toNat + 1) (pb l k).toNat j || ((rxN l (pb l k).toNat).nul && lsB l n k j)) := fun j => by
            rw [lsB, hp]
            dsimp only
            rw [if_neg c4, if_pos c2]
          rcases hnul : (rxN l (pb l k).toNat).nul with _ | _
          · rw [if_neg (by decide)]
            refine ⟨rfl, a2, fun j => ?_⟩
            rw [hf, hnul, Bool.false_and, Bool.or_false]
            exact a3 j
          · rw [if_pos rfl]
            refine ⟨by rw [b1]; rfl, b2, fun j => ?_⟩
            rw [hf, hnul, b3, a3]
            simp [Bool.or_assoc]
        · obtain ⟨b1, b2, b3⟩ := leR_ok h n k p2 (by omega) s hs
          rw [if_neg c2, if_neg c2]
          refine ⟨b1, b2, fun j => ?_⟩
          rw [lsB, hp]
          dsimp only
          rw [if_neg c4, if_neg c2, b3]
/-- the state before the first byte -/
def beR (l : List Pn) : Stt := enR l l.length (l.length - 1) (List.replicate l.length false)
/-- leaf i can read byte b -/
def rdR (l : List Pn) (s : List Bool) (b : Nat) (i : Nat) : Bool := s.getD i false && decide (plo l i ≤ (b : Int)) && decide ((b : Int) ≤ phi l i)
/-- the state behind a byte, when the first nodes have been looked at -/
def stG (l : List Pn) (s : List Bool) (b : Nat) : Nat → Stt
  | 0 => (false, List.replicate l.length false)
  | i + 1 => if rdR l s b i = true then ((stG l s b i).1 || (leR l (l.length - i) i (stG l s b i).2).1, (leR l (l.length - i) i (stG l s b i).2).2) else stG l s b i
def stR (l : List Pn) (x : Stt) (b : Nat) : Stt := stG l x.2 b l.length
/-- the state is that behind the string u -/
structure Sem (l : List Pn) (u : List UInt8) (x : Stt) : Prop where
  len : x.2.length = l.length
  mt : ∀ v, (rxP l).mt (u ++ v) ↔ (x.1 = true ∧ v = []) ∨ GoJ l (fun j => x.2.getD j false) v
theorem getD_rep (n j : Nat) : (List.replicate n false).getD j false = false := by
  rw [List.getD_eq_getElem?_getD, List.getElem?_replicate]
  split <;> rfl
theorem sem_begin (h : okP l) : Sem l [] (beR l) := by
  have hl := h.len
  obtain ⟨a1, a2, a3⟩ := enR_ok h l.length (l.length - 1) (by omega) (by omega) (List.replicate l.length false) List.length_replicate
  refine ⟨a2, fun v => ?_⟩
  have hf := fs_all h (k := l.length - 1) (by omega) v
  have hr := par_root (l := l) (by omega)
  simp only [conN_none hr] at hf
  have e : (rxP l).mt ([] ++ v) ↔ ∃ u v', v = u ++ v' ∧ (rxN l (l.length - 1)).mt u ∧ v' = [] := by
    constructor
    · intro m; exact ⟨v, [], by simp, m, rfl⟩
    · rintro ⟨u, _, rfl, m, rfl⟩
      rw [List.nil_append, List.append_nil]
      exact m
  rw [e, hf]
  have hx : (beR l).1 = (rxN l (l.length - 1)).nul := a1
  have hg : (fun j => (beR l).2.getD j false) = fsB l (l.length - 1 + 1) (l.length - 1) := by
    funext j
    show (enR l l.length (l.length - 1) (List.replicate l.length false)).2.getD j false = _
    rw [a3, getD_rep, Bool.false_or, show l.length - 1 + 1 = l.length by omega]
  rw [hx, hg]
theorem stG_ok (h : okP l) (s : List Bool) (b : Nat) : ∀ i, i ≤ l.length → (stG l s b i).2.length = l.length ∧ ((stG l s b i).1 = true ↔ ∃ j, j < i ∧ rdR l s b j = true ∧ leB l (l.length - j) j = true) ∧ ∀ q, ((stG l s b i).2.getD q false = true ↔ ∃ j, j < i ∧ rdR l s b j = true ∧ lsB l (l.length - j) j q = true)
  | 0, _ => by
    refine ⟨List.length_replicate, ?_, fun q => ?_⟩
    · show false = true ↔ _
      constructor
      · intro e; cases e
      · rintro ⟨j, h1, _⟩; omega
    · show (List.replicate l.length false).getD q false = true ↔ _
      rw [getD_rep]
      constructor
      · intro e; cases e
      · rintro ⟨j, h1, _⟩; omega
  | i + 1, hi => by
    obtain ⟨i1, i2, i3⟩ := stG_ok h s b i (by omega)
    rw [stG]
    by_cases c : rdR l s b i = true
    · rw [if_pos c]
      obtain ⟨a1, a2, a3⟩ := leR_ok h (l.length - i) i (by omega) (by omega) _ i1
      refine ⟨a2, ?_, fun q => ?_⟩
      · show ((stG l s b i).1 || _) = true ↔ _
        rw [Bool.or_eq_true, i2, a1]
        constructor
        · rintro (⟨j, j1, j2, j3⟩ | q)
          · exact ⟨j, by omega, j2, j3⟩
          · exact ⟨i, by omega, c, q⟩
        · rintro ⟨j, j1, j2, j3⟩
          rcases Nat.lt_or_ge j i with q | q
          · exact .inl ⟨j, q, j2, j3⟩
          · obtain rfl : j = i := by omega
            exact .inr j3
      · show (leR l (l.length - i) i (stG l s b i).2).2.getD q false = true ↔ _
        rw [a3, Bool.or_eq_true, i3]
        constructor
        · rintro (⟨j, j1, j2, j3⟩ | q)
          · exact ⟨j, by omega, j2, j3⟩
          · exact ⟨i, by omega, c, q⟩
        · rintro ⟨j, j1, j2, j3⟩
          rcases Nat.lt_or_ge j i with q | q
          · exact .inl ⟨j, q, j2, j3⟩
          · obtain rfl : j = i := by omega
            exact .inr j3
    · rw [if_neg c]
      refine ⟨i1, ?_, fun q => ?_⟩
      · rw [i2]
        constructor
        · rintro ⟨j, j1, r⟩; exact ⟨j, by omega, r⟩
        · rintro ⟨j, j1, j2, j3⟩
          rcases Nat.lt_or_ge j i with q | q
          · exact ⟨j, q, j2, j3⟩
          · obtain rfl : j = i := by omega
            exact absurd j2 c
      · rw [i3]
        constructor
        · rintro ⟨j, j1, r⟩; exact ⟨j, by omega, r⟩
        · rintro ⟨j, j1, j2, j3⟩
          rcases Nat.lt_or_ge j i with q | q
          · exact ⟨j, q, j2, j3⟩
          · obtain rfl : j = i := by omega
            exact absurd j2 c
theorem sem_step (h : okP l) {u : List UInt8} {x : Stt} (hx : Sem l u x) (b : UInt8) : Sem l (u ++ [b]) (stR l x b.toNat) := by
  obtain ⟨i1, i2, i3⟩ := stG_ok h x.2 b.toNat l.length (Nat.le_refl _)
  refine ⟨i1, fun v => ?_⟩
  rw [List.append_assoc, hx.mt]
  show _ ∨ GoJ l _ (b :: v) ↔ ((stG l x.2 b.toNat l.length).1 = true ∧ v = []) ∨ GoJ l (fun j => (stG l x.2 b.toNat l.length).2.getD j false) v
  rw [i2]
  have hj : ∀ j, x.2.getD j false = true → j < l.length := fun j hj => by
    rcases Nat.lt_or_ge j l.length with q | q
    · exact q
    · rw [List.getD_eq_getElem?_getD, List.getElem?_eq_none (by rw [hx.len]; exact q)] at hj; cases hj
  have hrd : ∀ j, rdR l x.2 b.toNat j = true ↔ x.2.getD j false = true ∧ plo l j ≤ (b.toNat : Int) ∧ (b.toNat : Int) ≤ phi l j := fun j => by
    unfold rdR
    simp only [Bool.and_eq_true, decide_eq_true_eq, and_assoc]
  constructor
  · rintro (⟨_, e⟩ | ⟨j, c, v', h1, h2, h3, h4, h5⟩)
    · cases e
    · injection h2 with h2 h2'
      subst h2
      subst h2'
      have hjl := hj j h1
      rcases (ls_ok h (l.length - j) j hjl (by omega) v).1 h5 with ⟨q1, q2⟩ | ⟨j', c', v2, k1, k2⟩
      · exact .inl ⟨⟨j, hjl, (hrd j).2 ⟨h1, h3, h4⟩, q1⟩, q2⟩
      · exact .inr ⟨j', c', v2, (i3 j').2 ⟨j, hjl, (hrd j).2 ⟨h1, h3, h4⟩, k1⟩, k2⟩
  · rintro (⟨⟨j, j1, j2, j3⟩, e⟩ | ⟨j', c', v2, k1, k2⟩)
    · obtain ⟨r1, r2, r3⟩ := (hrd j).1 j2
      exact .inr ⟨j, b, v, r1, rfl, r2, r3, (ls_ok h (l.length - j) j j1 (by omega) v).2 (.inl ⟨j3, e⟩)⟩
    · obtain ⟨j, j1, j2, j3⟩ := (i3 j').1 k1
      obtain ⟨r1, r2, r3⟩ := (hrd j).1 j2
      exact .inr ⟨j, b, v, r1, rfl, r2, r3, (ls_ok h (l.length - j) j j1 (by omega) v).2 (.inr ⟨j', c', v2, j3, k2⟩)⟩
/-- no byte can follow -/
def deadR (x : Stt) : Bool := x.2.all fun b => !b
theorem dead_mt {u : List UInt8} {x : Stt} (hx : Sem l u x) (hd : deadR x = true) {v : List UInt8} (hv : v ≠ []) : ¬ (rxP l).mt (u ++ v) := fun m => by
  rcases (hx.mt v).1 m with ⟨_, e⟩ | ⟨j, c, v', h1, _⟩
  · exact hv e
  · unfold deadR at hd
    rw [List.all_eq_true] at hd
    change x.2.getD j false = true at h1
    rw [List.getD_eq_getElem?_getD] at h1
    rcases hg : x.2[j]? with _ | b
    · rw [hg] at h1; cases h1
    · rw [hg] at h1
      have := hd b (List.mem_of_getElem? hg)
      change b = true at h1
      rw [h1] at this
      cases this
theorem sem_end {u : List UInt8} {x : Stt} (hx : Sem l u x) : x.1 = true ↔ (rxP l).mt u := by
  have := hx.mt []
  rw [List.append_nil] at this
  rw [this]
  constructor
  · intro e; exact .inl ⟨e, rfl⟩
  · rintro (⟨e, _⟩ | ⟨j, c, v, _, e, _⟩)
    · exact e
    · cases e
end

/-! ### The search -/
/-- a pair: two states and the string that leads to them -/
abbrev Pr2 := (Stt × Stt) × List UInt8
def fr2 (Q : List Pr2) : List (List UInt8 × List (Stt × Stt)) := Q.map fun x => (x.2, [x.1])
theorem fr2_get {Q : List Pr2} {k : Nat} {x : Stt × Stt} {t : List UInt8} (h : Q[k]? = some (x, t)) : (fr2 Q)[k]? = some (t, [x]) := by unfold fr2; rw [List.getElem?_map, h]; rfl
def stP2 (l m : List Pn) (x : Stt × Stt) (b : Nat) : Stt × Stt := (stR l x.1 b, stR m x.2 b)
structure BfI (l m : List Pn) (Q : List Pr2) (n B : Nat) : Prop where
  sem : ∀ (k : Nat) x t, Q[k]? = some (x, t) → Sem l t x.1 ∧ Sem m t x.2
  start : ∃ x, Q[0]? = some (x, [])
  txs : Txs (fr2 Q) n B
  pro : ∀ (k : Nat) x t, Q[k]? = some (x, t) → ∀ c : UInt8, (k < n ∨ (k = n ∧ c.toNat < B)) → ¬ ((stP2 l m x c.toNat).1.1 = true ∧ (stP2 l m x c.toNat).2.1 = true) ∧ (deadR (stP2 l m x c.toNat).1 = true ∨ deadR (stP2 l m x c.toNat).2 = true ∨ ∃ (j : Nat) (t' : List UInt8), Q[j]? = some (stP2 l m x c.toNat, t') ∧ leS t' (t ++ [c]))
section
variable {l m : List Pn} {Q : List Pr2} {n B : Nat}
theorem BfI.found (hl : okP l) (hm : okP m) (h : BfI l m Q n B) (W : List UInt8 → Prop) (hW : ∀ a b, leS a b → W b → W a) (hP : ∀ (k : Nat) x t, Q[k]? = some (x, t) → ∀ c : UInt8, W (t ++ [c]) → k < n ∨ (k = n ∧ c.toNat < B)) :
    ∀ (z : Nat) (u : List UInt8), u.length = z → (u = [] ∨ W u) → (∃ (k : Nat) (x : Stt × Stt) (t : List UInt8), Q[k]? = some (x, t) ∧ Sem l u x.1 ∧ Sem m u x.2 ∧ leS t u) ∨ (∀ v, v ≠ [] → ¬ ((rxP l).mt (u ++ v) ∧ (rxP m).mt (u ++ v)))
  | 0, u, hu, _ => by
    obtain rfl : u = [] := List.length_eq_zero_iff.1 hu
    obtain ⟨x, hx⟩ := h.start
    obtain ⟨s1, s2⟩ := h.sem 0 x [] hx
    exact .inl ⟨0, x, [], hx, s1, s2, leS_refl _⟩
  | z + 1, u, hu, hw => by
    have hne : u ≠ [] := by rintro rfl; simp at hu
    obtain ⟨v, c, rfl⟩ : ∃ v c, u = v ++ [c] := ⟨u.dropLast, u.getLast hne, (List.dropLast_concat_getLast hne).symm⟩
    have hw : W (v ++ [c]) := hw.resolve_left hne
    rcases BfI.found hl hm h W hW hP z v (by simpa using hu) (.inr (hW _ _ (.inl (ltS_grow v c)) hw)) with ⟨k, x, t, k1, k2, k3, k4⟩ | hno
    · have hle : leS (t ++ [c]) (v ++ [c]) := leS_snoc k4 (Nat.le_refl _)
      obtain ⟨p1, p2⟩ := h.pro k x t k1 c (hP k x t k1 c (hW _ _ hle hw))
      have e1 := sem_step hl k2 c
      have e2 := sem_step hm k3 c
      rcases p2 with p2 | p2 | ⟨j, t', j1, j2⟩
      · exact .inr (fun w hw q => dead_mt e1 p2 hw q.1)
      · exact .inr (fun w hw q => dead_mt e2 p2 hw q.2)
      · exact .inl ⟨j, _, t', j1, e1, e2, leS_trans j2 hle⟩
    · exact .inr (fun w hw q => hno ([c] ++ w) (by simp) (by rw [List.append_assoc] at q; exact q))
theorem BfI.none' (hl : okP l) (hm : okP m) (h : BfI l m Q n B) (W : List UInt8 → Prop) (hW : ∀ a b, leS a b → W b → W a) (hP : ∀ (k : Nat) x t, Q[k]? = some (x, t) → ∀ c : UInt8, W (t ++ [c]) → k < n ∨ (k = n ∧ c.toNat < B)) {v : List UInt8} (hv : v ≠ []) (hwv : W v) : ¬ ((rxP l).mt v ∧ (rxP m).mt v) := fun q => by
  obtain ⟨u, c, rfl⟩ : ∃ u c, v = u ++ [c] := ⟨v.dropLast, v.getLast hv, (List.dropLast_concat_getLast hv).symm⟩
  rcases BfI.found hl hm h W hW hP u.length u rfl (.inr (hW _ _ (.inl (ltS_grow u c)) hwv)) with ⟨k, x, t, k1, k2, k3, k4⟩ | hno
  · have hle : leS (t ++ [c]) (u ++ [c]) := leS_snoc k4 (Nat.le_refl _)
    obtain ⟨p1, _⟩ := h.pro k x t k1 c (hP k x t k1 c (hW _ _ hle hwv))
    exact p1 ⟨(sem_end (sem_step hl k2 c)).2 q.1, (sem_end (sem_step hm k3 c)).2 q.2⟩
  · exact hno [c] (by simp) q
/-- the search ends with a string -/
theorem BfI.hit (hl : okP l) (hm : okP m) (h : BfI l m Q n B) {x : Stt × Stt} {t : List UInt8} (hx : Q[n]? = some (x, t)) {b : UInt8} (hb : b.toNat = B) (ha : (stP2 l m x b.toNat).1.1 = true ∧ (stP2 l m x b.toNat).2.1 = true) : FirstB (rxP l) (rxP m) (t ++ [b]) := by
  obtain ⟨s1, s2⟩ := h.sem n x t hx
  refine ⟨by simp, (sem_end (sem_step hl s1 b)).1 ha.1, (sem_end (sem_step hm s2 b)).1 ha.2, fun v hv h1 h2 => ?_⟩
  rcases ltS_tri (t ++ [b]) v with q | q | q
  · exact .inl q
  · exact .inr q
  · exact absurd ⟨h1, h2⟩ (h.none' hl hm (fun a => ltS a (t ++ [b])) (fun a b' k1 k2 => leS_lt k1 k2) (fun k y t' hk c hc => by
      have := h.txs.passed (fr2_get hx) (fr2_get hk) hc
      rw [hb] at this
      exact this) hv q)
/-- the search ends without one -/
theorem BfI.out (hl : okP l) (hm : okP m) (h : BfI l m Q n B) (hn : n = Q.length) {v : List UInt8} (hv : v ≠ []) : ¬ ((rxP l).mt v ∧ (rxP m).mt v) :=
  h.none' hl hm (fun _ => True) (fun _ _ _ _ => trivial) (fun k x t hk c _ => .inl (by rw [hn]; exact lt_of_get hk)) hv trivial
theorem BfI.first (hl : okP l) (hm : okP m) : BfI l m [((beR l, beR m), [])] 0 0 := by
  have key : ∀ (k : Nat) x t, ([((beR l, beR m), [])] : List Pr2)[k]? = some (x, t) → k = 0 ∧ x = (beR l, beR m) ∧ t = [] := fun k x t hk => by
    have := lt_of_get hk
    obtain rfl : k = 0 := by simpa using this
    injection hk with hk
    injection hk with h1 h2
    exact ⟨rfl, h1.symm, h2.symm⟩
  refine ⟨fun k x t hk => ?_, ⟨_, rfl⟩, Txs.nil [] rfl _, fun k x t hk c hc => ?_⟩
  · obtain ⟨_, rfl, rfl⟩ := key k x t hk
    exact ⟨sem_begin hl, sem_begin hm⟩
  · obtain ⟨rfl, _, _⟩ := key k x t hk
    omega
/-- the next element -/
theorem BfI.next (h : BfI l m Q n 256) : BfI l m Q (n + 1) 0 := ⟨h.sem, h.start, h.txs.next, fun k x t hk c hc => h.pro k x t hk c (by
  have := c.toNat_lt
  rcases hc with hc | ⟨_, hc⟩
  · rcases Nat.lt_or_ge k n with q | q
    · exact .inl q
    · exact .inr ⟨by omega, this⟩
  · omega)⟩
/-- a byte that leads nowhere new -/
theorem BfI.pass (h : BfI l m Q n B) {x : Stt × Stt} {t : List UInt8} (hx : Q[n]? = some (x, t)) {b : UInt8} (hb : b.toNat = B) (hna : ¬ ((stP2 l m x b.toNat).1.1 = true ∧ (stP2 l m x b.toNat).2.1 = true))
    (hd : deadR (stP2 l m x b.toNat).1 = true ∨ deadR (stP2 l m x b.toNat).2 = true ∨ ∃ (j : Nat) (t' : List UInt8), Q[j]? = some (stP2 l m x b.toNat, t')) : BfI l m Q n (B + 1) := by
  refine ⟨h.sem, h.start, h.txs.up (by omega), fun k y t' hk c hc => ?_⟩
  by_cases q : k < n ∨ (k = n ∧ c.toNat < B)
  · exact h.pro k y t' hk c q
  · obtain ⟨rfl, hcb⟩ : k = n ∧ c.toNat = B := by omega
    obtain rfl : c = b := UInt8.toNat_inj.1 (by omega)
    rw [hx] at hk
    injection hk with hk
    injection hk with h1 h2
    subst h1; subst h2
    refine ⟨hna, ?_⟩
    rcases hd with hd | hd | ⟨j, t', hj⟩
    · exact .inl hd
    · exact .inr (.inl hd)
    · exact .inr (.inr ⟨j, t', hj, .inl (h.txs.lt (fr2_get hx) (b := c) (by omega) (fr2_get hj))⟩)
/-- a byte that leads to a new pair -/
theorem BfI.add (hl : okP l) (hm : okP m) (h : BfI l m Q n B) {x : Stt × Stt} {t : List UInt8} (hx : Q[n]? = some (x, t)) {b : UInt8} (hb : b.toNat = B) (hna : ¬ ((stP2 l m x b.toNat).1.1 = true ∧ (stP2 l m x b.toNat).2.1 = true)) :
    BfI l m (Q ++ [(stP2 l m x b.toNat, t ++ [b])]) n (B + 1) := by
  have hnl := lt_of_get hx
  refine ⟨fun k y t' hk => ?_, ?_, ?_, fun k y t' hk c hc => ?_⟩
  · rcases (get_app _ _ _ _).1 hk with q | ⟨_, q⟩
    · exact h.sem k y t' q
    · injection q with q1 q2
      subst q1; subst q2
      obtain ⟨s1, s2⟩ := h.sem n x t hx
      exact ⟨sem_step hl s1 b, sem_step hm s2 b⟩
  · obtain ⟨y, hy⟩ := h.start
    exact ⟨y, (get_app _ _ _ _).2 (.inl hy)⟩
  · have := h.txs.app (fr2_get hx) (b := b) (by omega) [stP2 l m x b.toNat]
    unfold fr2 at this ⊢
    rw [List.map_append, ← hb]
    exact this
  · rcases (get_app _ _ _ _).1 hk with q | ⟨q1, _⟩
    · by_cases r : k < n ∨ (k = n ∧ c.toNat < B)
      · obtain ⟨p1, p2⟩ := h.pro k y t' q c r
        refine ⟨p1, ?_⟩
        rcases p2 with p2 | p2 | ⟨j, t2, j1, j2⟩
        · exact .inl p2
        · exact .inr (.inl p2)
        · exact .inr (.inr ⟨j, t2, (get_app _ _ _ _).2 (.inl j1), j2⟩)
      · obtain ⟨rfl, hcb⟩ : k = n ∧ c.toNat = B := by omega
        obtain rfl : c = b := UInt8.toNat_inj.1 (by omega)
        rw [hx] at q
        injection q with q
        injection q with h1 h2
        subst h1; subst h2
        exact ⟨hna, .inr (.inr ⟨Q.length, _, (get_app _ _ _ _).2 (.inr ⟨rfl, rfl⟩), leS_refl _⟩)⟩
    · omega
end

/-! ### There are finitely many pairs -/
def bN : List Bool → Nat
  | [] => 0
  | b :: s => (if b then 1 else 0) + 2 * bN s
theorem bN_lt : ∀ s : List Bool, bN s < 2 ^ s.length
  | [] => by simp [bN]
  | b :: s => by
    have := bN_lt s
    rw [bN, List.length_cons, Nat.pow_succ]
    split <;> omega
theorem bN_inj : ∀ s t : List Bool, s.length = t.length → bN s = bN t → s = t
  | [], [], _, _ => rfl
  | [], _ :: _, h, _ => by simp at h
  | _ :: _, [], h, _ => by simp at h
  | a :: s, b :: t, h, e => by
    rw [bN, bN] at e
    have h' : s.length = t.length := by simpa using h
    have : a = b ∧ bN s = bN t := by
      rcases a with _ | _ <;> rcases b with _ | _ <;> simp at e ⊢ <;> omega
    rw [this.1, bN_inj s t h' this.2]
def cod (x : Stt × Stt) : List Bool := x.1.1 :: x.2.1 :: (x.1.2 ++ x.2.2)
theorem cod_inj {x y : Stt × Stt} (h1 : x.1.2.length = y.1.2.length) (h : cod x = cod y) : x = y := by
  unfold cod at h
  injection h with a1 h
  injection h with a2 h
  obtain ⟨a3, a4⟩ := List.append_inj h h1
  exact Prod.ext (Prod.ext a1 a3) (Prod.ext a2 a4)
theorem pairs_len {a b : Nat} (Q : List (Stt × Stt)) (hd : Q.Nodup) (hl : ∀ x ∈ Q, x.1.2.length = a ∧ x.2.2.length = b) : Q.length ≤ 2 ^ (a + b + 2) := by
  have hp : 1 ≤ 2 ^ (a + b + 2) := Nat.one_le_two_pow
  have hlen : ∀ x ∈ Q, (cod x).length = a + b + 2 := fun x hx => by
    have := hl x hx
    unfold cod
    simp only [List.length_cons, List.length_append]
    omega
  have h1 := nodup_len (2 ^ (a + b + 2) - 1) (Q.map fun x => bN (cod x)) (by
    rw [List.Nodup, List.pairwise_map]
    refine List.Pairwise.imp_of_mem (fun {x y} hx hy hne e => hne ?_) hd
    exact cod_inj (by rw [(hl x hx).1, (hl y hy).1]) (bN_inj _ _ (by rw [hlen x hx, hlen y hy]) e)) (fun z hz => by
    rw [List.mem_map] at hz
    obtain ⟨x, hx, rfl⟩ := hz
    have := bN_lt (cod x)
    rw [hlen x hx] at this
    omega)
  rw [List.length_map] at h1
  omega

end Go.Proofs.YtfkljlncnfeklaaGreatDoor
