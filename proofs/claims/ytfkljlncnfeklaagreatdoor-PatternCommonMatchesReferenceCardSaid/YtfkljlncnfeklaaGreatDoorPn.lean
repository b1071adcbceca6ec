/-
  Plain mathematics and contracts of package diagram, several texts in one: XMx, XFr, XMs, XMee.
-/
import Derived.Test.YtfkljlncnfeklaaGreatDoorPb
import Derived.Sort.QuietTacIn
import Derived.Deep.AppendLies
import Derived.Test.YtfkljlncnfeklaaGreatDoorPm

/-! A region that draws its order: most of its operations only read, in the worlds of a class; the rest come behind them, or leave the class as it is: one walk in the text's order, then the rest. -/
namespace Go.Proofs.YtfkljlncnfeklaaGreatDoor
open Go.RowKit Go.Shelf
set_option linter.unusedVariables false

def stUpon (w : World) (v : Value) : Result Next → Prop
  | .ok (.value u) w' => w' = w ∧ u = v
  | .ok .skip w' => w' = w ∧ v = undef
  | _ => False
def stAt (P : Program) (o : Oper) (a : Act) (w : World) (v : Value) : Prop := stUpon w v ((execOp a.eval o).run P w)
def stIn (P : Program) (o : Oper) (a : Act) (C : World → Prop) (next : Act → Prop) : Prop := ∃ v, (∀ w, C w → stAt P o a w v) ∧ next (a.put o.dst v)
section
variable {F : Fence} {n : Nat} {P : Program} {ops : Array Oper} {Q : Exit → Act → World → Prop} {md : Region.Mode} {C : World → Prop} {D : Array Bool → World → Prop} {m : Nat} {E : Nat → Bool}

def stOpIn (F : Fence) (P : Program) (ops : Array Oper) (C : World → Prop) (i : Nat) (K : Act → Prop) (a : Act) : Prop :=
  match ops[i]? with
  | none => K a
  | some o => o.askedIn F P a C ∧ if Region.wanted o (yielded ops a.tmps) then stIn P o a C K else K (a.put o.dst undef)
theorem stOpIn_mono {i : Nat} {a : Act} {K K' : Act → Prop} (h : ∀ a, K a → K' a) (hh : stOpIn F P ops C i K a) : stOpIn F P ops C i K' a := by
  unfold stOpIn at *
  split
  · exact h _ (by simpa [*] using hh)
  · rename_i o ho
    simp only [ho] at hh
    refine ⟨hh.1, ?_⟩
    have hh := hh.2
    split
    · rename_i hw; simp only [hw, if_true] at hh; obtain ⟨v, h1, h2⟩ := hh; exact ⟨v, h1, h _ h2⟩
    · rename_i hw; simp only [hw] at hh; exact h _ hh
theorem wpOpIn_of_st {i : Nat} {a : Act} {K : Act → Prop} {K' : Act → World → Prop} {w : World} (hro : F.round = none) (hC : C w) (h : ∀ a, K a → K' a w)
    (hh : stOpIn F P ops C i K a) : wpOpIn F n P ops Q i K' a w := by
  unfold stOpIn at hh
  unfold wpOpIn
  split
  · rename_i ho; simp only [ho] at hh; exact h _ hh
  · rename_i o ho
    simp only [ho] at hh
    obtain ⟨ha, hh⟩ := hh
    split
    · rename_i hw
      simp only [hw, if_true] at hh
      obtain ⟨v, h1, h2⟩ := hh
      have h3 := h1 w hC
      unfold stAt at h3
      unfold Oper.wpIn
      refine ⟨ha w hC, ?_⟩
      rw [hro, Oper.semAt_none]
      generalize (execOp a.eval o).run P w = r at *
      cases r with
      | ok x w' =>
        cases x <;> simp only [stUpon] at h3 <;> simp only [Oper.uponIn]
        case value u => obtain ⟨e1, e2⟩ := h3; rw [e1, e2]; exact h _ h2
        case skip => obtain ⟨e1, e2⟩ := h3; rw [e1, ← e2]; exact h _ h2
      | halt x w' => simp only [stUpon] at h3
    · rename_i hw; simp only [hw] at hh; exact ⟨ha w hC, h _ hh⟩
def YieldsSt (F : Fence) (P : Program) (ops : Array Oper) (C : World → Prop) (o : Oper) (v : Value) (a : Act) : Prop :=
  o.askedIn F P a C ∧ ((Region.wanted o (yielded ops a.tmps) = true ∧ ∀ w, C w → stAt P o a w v) ∨ (Region.wanted o (yielded ops a.tmps) = false ∧ v = undef))
theorem YieldsSt.op {i : Nat} {o : Oper} {v : Value} {a : Act} (hi : ops[i]? = some o) (hy : YieldsSt F P ops C o v a) {K : Act → Prop} (h : K (a.put o.dst v)) : stOpIn F P ops C i K a := by
  unfold stOpIn
  simp only [hi]
  refine ⟨hy.1, ?_⟩
  rcases hy.2 with ⟨hw, hv⟩ | ⟨hw, rfl⟩
  · simp only [hw, if_true]; exact ⟨v, hv, h⟩
  · simp only [hw, Bool.false_eq_true, if_false]; exact h
theorem YieldsSt.of_same {o : Oper} {v : Value} {a a' : Act} (hy : YieldsSt F P ops C o v a) (he : execOp a'.eval o = execOp a.eval o)
    (hw : Region.wanted o (yielded ops a'.tmps) = Region.wanted o (yielded ops a.tmps)) (hb : ∀ w, o.about P w a'.eval = o.about P w a.eval) : YieldsSt F P ops C o v a' := by
  unfold YieldsSt stAt Oper.askedIn at *
  rw [he, hw]
  exact ⟨fun w hc f hf => hy.1 w hc f (by rw [← hb w]; exact hf), hy.2⟩
theorem yieldsSt_of {i : Nat} {o : Oper} {a : Act} {K : Act → Prop} (hi : ops[i]? = some o) (h : stOpIn F P ops C i K a) : ∃ v, YieldsSt F P ops C o v a ∧ K (a.put o.dst v) := by
  unfold stOpIn at h
  simp only [hi] at h
  obtain ⟨ha, h⟩ := h
  by_cases hw : Region.wanted o (yielded ops a.tmps) = true
  · simp only [hw, if_true] at h
    obtain ⟨v, h1, h2⟩ := h
    exact ⟨v, ⟨ha, .inl ⟨hw, h1⟩⟩, h2⟩
  · simp only [hw] at h
    exact ⟨undef, ⟨ha, .inr ⟨by simpa using hw, rfl⟩⟩, h⟩
theorem YieldsSt.put {oi oj : Oper} {v : Value} (hap : oi.apart ops oj = true) (hsi : ∀ cs b, oi.op ≠ .select cs b) (a : Act) (hy : YieldsSt F P ops C oi v a) (u : Value) : YieldsSt F P ops C oi v (a.put oj.dst u) := by
  obtain ⟨h1, h2, h3⟩ := Oper.apart_spec hap
  exact hy.of_same (execOp_put oi hsi a oj.dst u h3) (wanted_put oi a oj.dst u h3) (fun w => about_put oi w a oj.dst u h3)
theorem stOpIn_put {j : Nat} {oi oj : Oper} {v : Value} (hj : ops[j]? = some oj) (hap : oi.apart ops oj = true)
    (hsi : ∀ cs b, oi.op ≠ .select cs b) (hsj : ∀ cs b, oj.op ≠ .select cs b) {K : Act → Prop} {a : Act}
    (hy : YieldsSt F P ops C oi v a) (h : stOpIn F P ops C j K (a.put oi.dst v)) : stOpIn F P ops C j (fun a' => YieldsSt F P ops C oi v a' ∧ K (a'.put oi.dst v)) a := by
  obtain ⟨h1, h2, h3⟩ := Oper.apart_spec hap
  unfold stOpIn at *
  simp only [hj] at *
  obtain ⟨ha, h⟩ := h
  refine ⟨fun w hc f hf => ha w hc f (by rw [about_put oj w a oi.dst v h1]; exact hf), ?_⟩
  rw [wanted_put oj a oi.dst v h1] at h
  split
  · rename_i hw
    simp only [hw, if_true] at h
    obtain ⟨u, hu, hn⟩ := h
    refine ⟨u, fun w hw' => ?_, hy.put hap hsi a u, by rw [← Act.put_comm a v u h2]; exact hn⟩
    have := hu w hw'
    unfold stAt at *
    rwa [execOp_put oj hsj a oi.dst v h1] at this
  · rename_i hw
    simp only [hw] at h
    exact ⟨hy.put hap hsi a _, by rw [← Act.put_comm a v undef h2]; exact h⟩
/-- any operation, and one that only reads: either way around -/
theorem wpOpIn_put_st {j : Nat} {oi oj : Oper} {v : Value} (hro : F.round = none) (hj : ops[j]? = some oj) (hap : oi.apart ops oj = true)
    (hsi : ∀ cs b, oi.op ≠ .select cs b) (hsj : ∀ cs b, oj.op ≠ .select cs b)
    (hQ : ∀ c a w, Q (.panic c) (a.put oi.dst v) w → Q (.panic c) a w) {K : Act → World → Prop} {a : Act} {w : World}
    (hy : YieldsSt F P ops C oi v a) (h : wpOpIn F n P ops Q j K (a.put oi.dst v) w) :
    wpOpIn F n P ops Q j (fun a' w' => YieldsSt F P ops C oi v a' ∧ K (a'.put oi.dst v) w') a w := by
  obtain ⟨h1, h2, h3⟩ := Oper.apart_spec hap
  have keep : ∀ (a : Act), YieldsSt F P ops C oi v a → ∀ u, YieldsSt F P ops C oi v (a.put oj.dst u) := fun a hy u => hy.put hap hsi a u
  have keepD : ∀ d, YieldsSt F P ops C oi v { a with defers := d :: a.defers } := fun d => hy.of_same rfl rfl (fun _ => rfl)
  unfold wpOpIn at *
  simp only [hj] at *
  rw [wanted_put oj a oi.dst v h1, about_put oj w a oi.dst v h1] at h
  split
  · rename_i hw
    simp only [hw, if_true] at h
    unfold Oper.wpIn at *
    rw [about_put oj w a oi.dst v h1] at h
    refine ⟨h.1, ?_⟩
    have h := h.2
    rw [hro, Oper.semAt_none, execOp_put oj hsj a oi.dst v h1] at h
    rw [hro, Oper.semAt_none]
    generalize (execOp a.eval oj).run P w = r at *
    cases r with
    | ok x w' =>
      cases x <;> simp only [Oper.uponIn] at h ⊢
      case value u => exact ⟨keep a hy u, by rw [← Act.put_comm a v u h2]; exact h⟩
      case skip => exact ⟨keep a hy _, by rw [← Act.put_comm a v undef h2]; exact h⟩
      case defer d =>
        refine ⟨keep _ (keepD d) _, ?_⟩
        rw [← Act.put_comm _ v undef h2, ← Act.put_defers]
        exact h
      case enter f args =>
        refine ⟨h.1, CallsIn.mono h.2 fun e w'' he => ?_⟩
        cases e with
        | returned u => exact ⟨keep a hy u, by rw [← Act.put_comm a v u h2]; exact he⟩
        | panicked c => exact hQ _ _ _ he
        | outgrown => exact he
      case row row args => exact ⟨h.1, RowsIn.mono h.2 fun u w'' he => ⟨keep a hy u, by rw [← Act.put_comm a v u h2]; exact he⟩⟩
      case round l f tmps assign body =>
        refine ⟨h.1, RoundIn.mono h.2 fun e w'' he => ?_⟩
        cases e with
        | returned u => exact ⟨keep a hy u, by rw [← Act.put_comm a v u h2]; exact he⟩
        | panicked c => exact hQ _ _ _ he
        | outgrown => exact he
    | halt x w' =>
      cases x <;> simp only [Oper.uponIn] at h ⊢
      case panic u => exact hQ _ _ _ h
  · rename_i hw
    simp only [hw] at h
    exact ⟨h.1, keep a hy _, by rw [← Act.put_comm a v undef h2]; exact h.2⟩
/-- i comes before j -/
def anc (md : Region.Mode) (ops : Array Oper) : Nat → Nat → Nat → Bool
  | 0, _, _ => false
  | f + 1, j, i => match ops[j]? with
    | none => false
    | some o => o.after.toList.any fun e => Region.binds md e && (e.on == i || anc md ops f e.on i)
/-- what has run, all before it has run -/
def Dc (md : Region.Mode) (ops : Array Oper) (listed : Array Bool) : Prop := ∀ k o, ops[k]? = some o → listed.getD k false = true → ∀ e ∈ o.after, Region.binds md e = true → listed.getD e.on false = true
theorem Dc.anc {listed : Array Bool} (h : Dc md ops listed) : ∀ (f j i : Nat) (o : Oper), ops[j]? = some o → (∀ e ∈ o.after, Region.binds md e = true → listed.getD e.on false = true) → anc md ops f j i = true → listed.getD i false = true
  | 0, _, _, _, _, _, ha => by cases ha
  | f + 1, j, i, o, ho, he, ha => by
    unfold Proofs.YtfkljlncnfeklaaGreatDoor.anc at ha
    simp only [ho] at ha
    obtain ⟨e, h1, h2⟩ := List.any_eq_true.1 ha
    simp only [Bool.and_eq_true, Bool.or_eq_true, beq_iff_eq] at h2
    have h3 := he e (Array.mem_toList_iff.1 h1) h2.1
    rcases h2.2 with rfl | h4
    · exact h3
    · cases hk : ops[e.on]? with
      | none => cases f with
        | zero => cases h4
        | succ f => unfold Proofs.YtfkljlncnfeklaaGreatDoor.anc at h4; simp only [hk] at h4; cases h4
      | some ok => exact h.anc f e.on i ok hk (h _ _ hk h3) h4
theorem Dc.set {listed : Array Bool} (h : Dc md ops listed) {i : Nat} (hi : i ∈ Region.ready md ops listed) : Dc md ops (listed.setIfInBounds i true) := by
  obtain ⟨h0, o, ho, he⟩ := mem_ready.1 hi
  have up : ∀ k, listed.getD k false = true → (listed.setIfInBounds i true).getD k false = true := fun k hk => by
    rcases Nat.lt_or_ge k listed.size with c | c
    · simp only [Array.getD_eq_getD_getElem?, Array.getElem?_setIfInBounds] at hk ⊢
      split
      · split <;> simp_all
      · exact hk
    · simp [Array.getElem?_eq_none c] at hk
  intro k ok hk hl e hm hb
  by_cases c : i = k
  · subst c
    rw [ho] at hk
    cases hk
    exact up _ (he e hm hb)
  · refine up _ (h k ok hk ?_ e hm hb)
    rwa [getD_set_ne false c] at hl
def wpMix (F : Fence) (n : Nat) (P : Program) (md : Region.Mode) (ops : Array Oper) (Q : Exit → Act → World → Prop) (C : World → Prop) (D : Array Bool → World → Prop) (m : Nat) (E : Nat → Bool) : Nat → Array Bool → Act → Prop
  | 0, listed, a => Region.ready md ops listed = [] ∧ ∀ w, D listed w → Q .normal a w
  | fuel + 1, listed, a => (Region.ready md ops listed = [] → ∀ w, D listed w → Q .normal a w) ∧ ∀ i ∈ Region.ready md ops listed,
      if i < m then stOpIn F P ops C i (wpMix F n P md ops Q C D m E fuel (listed.setIfInBounds i true)) a
      else if E i = true then ∀ w, D listed w → wpOpIn F n P ops Q i (fun a' w' => D (listed.setIfInBounds i true) w' ∧ wpMix F n P md ops Q C D m E fuel (listed.setIfInBounds i true) a') a w
      else ∀ w, D listed w → wpOpIn F n P ops Q i (wpAnyIn F n P md ops Q fuel (listed.setIfInBounds i true)) a w
theorem wpMix_sound (hro : F.round = none) (hDC : ∀ listed w, D listed w → C w) (hDq : ∀ (listed : Array Bool) i w, i < m → (D (listed.setIfInBounds i true) w ↔ D listed w)) : ∀ (fuel : Nat) (listed : Array Bool) (a : Act) (w : World), D listed w →
    wpMix F n P md ops Q C D m E fuel listed a → wpAnyIn F n P md ops Q fuel listed a w
  | 0, _, _, _, hw, h => ⟨h.1, h.2 _ hw⟩
  | fuel + 1, listed, a, w, hw, h => ⟨fun h0 => h.1 h0 _ hw, fun i hi => by
    have h1 := h.2 i hi
    split at h1
    · next c => exact wpOpIn_of_st hro (hDC _ _ hw) (fun a' h' => wpMix_sound hro hDC hDq fuel _ a' w ((hDq _ _ _ c).2 hw) h') h1
    · split at h1
      · exact wpOpIn_mono (fun a' w' h' => wpMix_sound hro hDC hDq fuel _ a' w' h'.1 h'.2) (h1 w hw)
      · exact h1 w hw⟩
/-- an operation that only reads may be taken first -/
theorem wpMix_first {i : Nat} {oi : Oper} {v : Value} (hro : F.round = none) (hDq : ∀ (listed : Array Bool) i w, i < m → (D (listed.setIfInBounds i true) w ↔ D listed w)) {fa : Nat} (hE : ∀ j, m ≤ j → j < ops.size → E j = false → ∀ i, i < m → anc md ops fa j i = true) (him : i < m)
    (hi : ops[i]? = some oi) (hsel : ∀ (j : Nat) (o : Oper) cs b, ops[j]? = some o → o.op ≠ .select cs b) (hQ : ∀ c a w, Q (.panic c) (a.put oi.dst v) w → Q (.panic c) a w) :
    ∀ (fuel : Nat) (listed : Array Bool) (a : Act), Dc md ops listed →
      (∀ j oj, ops[j]? = some oj → j ≠ i → listed.getD j true = false → (∀ e ∈ oj.after, Region.binds md e = true → e.on ≠ i) → oi.apart ops oj = true) →
      i ∈ Region.ready md ops listed → YieldsSt F P ops C oi v a →
      wpMix F n P md ops Q C D m E fuel (listed.setIfInBounds i true) (a.put oi.dst v) → wpMix F n P md ops Q C D m E (fuel + 1) listed a := by
  intro fuel
  induction fuel with
  | zero =>
    intro listed a hdc _ hr hy H
    refine ⟨fun h => (by rw [h] at hr; cases hr), fun j hj => ?_⟩
    by_cases hji : j = i
    · subst hji; rw [if_pos him]; exact hy.op hi H
    · have := ready_mono hj hji
      rw [H.1] at this
      cases this
  | succ fuel ih =>
    intro listed a hdc hfree hr hy H
    refine ⟨fun h => (by rw [h] at hr; cases hr), fun j hj => ?_⟩
    by_cases hji : j = i
    · subst hji; rw [if_pos him]; exact hy.op hi H
    · have h1 := H.2 j (ready_mono hj hji)
      obtain ⟨hjun, oj, hoj, hall⟩ := mem_ready.1 hj
      have hiu := (mem_ready.1 hr).1
      have hnot : ∀ e ∈ oj.after, Region.binds md e = true → e.on ≠ i := fun e he hb heq => by
        have h1 := hall e he hb
        have h0 := hiu
        rw [heq] at h1
        rcases Nat.lt_or_ge i listed.size with h' | h'
        · simp [h'] at h0 h1; rw [h0] at h1; cases h1
        · simp [Array.getElem?_eq_none h'] at h1
      have hap := hfree j oj hoj hji hjun hnot
      have hfree' : ∀ k ok, ops[k]? = some ok → k ≠ i → (listed.setIfInBounds j true).getD k true = false →
          (∀ e ∈ ok.after, Region.binds md e = true → e.on ≠ i) → oi.apart ops ok = true := fun k ok hk hki hun hno => by
        refine hfree k ok hk hki ?_ hno
        by_cases hjk : j = k
        · subst hjk; exact hjun
        · rw [getD_set_ne true hjk] at hun; exact hun
      split at h1
      · next c =>
        rw [if_pos c]
        refine stOpIn_mono (fun a' h3 => ih (listed.setIfInBounds j true) a' (hdc.set hj) hfree' (ready_mono hr (Ne.symm hji)) h3.1 ?_) (stOpIn_put hoj hap (fun cs b => hsel i oi cs b hi) (fun cs b => hsel j oj cs b hoj) hy h1)
        rw [Array.setIfInBounds_comm _ _ hji]
        exact h3.2
      · next c =>
        rw [if_neg c]
        split at h1
        · next c2 =>
          rw [if_pos c2]
          intro w hw
          refine wpOpIn_mono (fun a' w' h3 => ?_) (wpOpIn_put_st hro hoj hap (fun cs b => hsel i oi cs b hi) (fun cs b => hsel j oj cs b hoj) hQ hy (h1 w ((hDq _ _ _ him).2 hw)))
          obtain ⟨h4, h5, h6⟩ := h3
          rw [← Array.setIfInBounds_comm _ _ hji] at h5 h6
          exact ⟨(hDq _ _ _ him).1 h5, ih (listed.setIfInBounds j true) a' (hdc.set hj) hfree' (ready_mono hr (Ne.symm hji)) h4 h6⟩
        · next c2 =>
          exfalso
          have hjs : j < ops.size := (Array.getElem?_eq_some_iff.1 hoj).1
          have := hdc.anc fa j i oj hoj hall (hE j (by omega) hjs (by simpa using c2) i him)
          rcases Nat.lt_or_ge i listed.size with h' | h'
          · simp [h'] at hiu this; rw [hiu] at this; cases this
          · simp [Array.getElem?_eq_none h'] at this
/-- the walk in the text's order -/
def wpSt (F : Fence) (P : Program) (ops : Array Oper) (C : World → Prop) (R : Act → Prop) : List Oper → Act → Prop
  | [], a => R a
  | o :: rest, a => o.askedIn F P a C ∧ if Region.wanted o (yielded ops a.tmps) then stIn P o a C (wpSt F P ops C R rest) else wpSt F P ops C R rest (a.put o.dst undef)
theorem wpSt_nil {R : Act → Prop} {a : Act} (h : R a) : wpSt F P ops C R [] a := h
theorem wpSt_step {R : Act → Prop} {a : Act} {o : Oper} {rest : List Oper} (ha : o.askedIn F P a C)
    (h : ∀ K : Act → Prop, (∀ a, wpSt F P ops C R rest a → K a) → if Region.wanted o (yielded ops a.tmps) then stIn P o a C K else K (a.put o.dst undef)) : wpSt F P ops C R (o :: rest) a :=
  ⟨ha, h _ (fun _ h => h)⟩
/-- the first k operations in order -/
def lexTo (md : Region.Mode) (ops : Array Oper) : Nat → Nat → Array Bool → Bool
  | 0, _, _ => true
  | fuel + 1, k, listed => (Region.ready md ops listed).contains k && Region.free md ops listed k && lexTo md ops fuel (k + 1) (listed.setIfInBounds k true)
def upTo : Nat → Nat → Array Bool → Array Bool
  | 0, _, l => l
  | f + 1, k, l => upTo f (k + 1) (l.setIfInBounds k true)
theorem wpMix_lex (hro : F.round = none) (hDq : ∀ (listed : Array Bool) i w, i < m → (D (listed.setIfInBounds i true) w ↔ D listed w)) {fa : Nat} (hE : ∀ j, m ≤ j → j < ops.size → E j = false → ∀ i, i < m → anc md ops fa j i = true)
    (hs : Region.noSelect ops = true) (hQ : ∀ c a d v w, Q (.panic c) (a.put d v) w → Q (.panic c) a w) (fu : Nat) : ∀ (l : List Oper) (k : Nat) (listed : Array Bool) (a : Act), Dc md ops listed → (∀ j, j < l.length → l[j]? = ops[k + j]?) → k + l.length = m →
    lexTo md ops l.length k listed = true → wpSt F P ops C (wpMix F n P md ops Q C D m E fu (upTo l.length k listed)) l a → wpMix F n P md ops Q C D m E (l.length + fu) listed a
  | [], _, _, _, _, _, _, _, h => by simpa [upTo, wpSt] using h
  | o :: l, k, listed, a, hdc, hl, hkm, hB, h => by
    have h0 : ops[k]? = some o := by simpa using (hl 0 (by simp)).symm
    simp only [List.length_cons, lexTo, Bool.and_eq_true] at hB
    obtain ⟨⟨hr, hf⟩, hB'⟩ := hB
    have hst : stOpIn F P ops C k (wpSt F P ops C (wpMix F n P md ops Q C D m E fu (upTo l.length (k + 1) (listed.setIfInBounds k true))) l) a := by unfold stOpIn; simp only [h0]; exact h
    obtain ⟨v, hy, hK⟩ := yieldsSt_of h0 hst
    have hr' : k ∈ Region.ready md ops listed := by simpa using hr
    have e : (o :: l).length + fu = (l.length + fu) + 1 := by simp; omega
    rw [e]
    exact wpMix_first hro hDq hE (by simp at hkm; omega) h0 (Region.noSelect_spec hs) (fun c a w => hQ c a _ _ w) (l.length + fu) listed a hdc (Region.free_spec h0 hf) hr' hy
      (wpMix_lex hro hDq hE hs hQ fu l (k + 1) _ _ (hdc.set hr') (fun j hj => by have := hl (j + 1) (by simpa using hj); simpa [Nat.add_assoc, Nat.add_comm 1 j] using this) (by simp at hkm; omega) hB' hK)
/-- all of the rest come behind the first m -/
def allBehind (md : Region.Mode) (ops : Array Oper) (m fa : Nat) (E : Nat → Bool) : Bool := (List.range ops.size).all fun j => j < m || E j || (List.range m).all fun i => anc md ops fa j i
theorem allBehind_spec {fa : Nat} (h : allBehind md ops m fa E = true) : ∀ j, m ≤ j → j < ops.size → E j = false → ∀ i, i < m → anc md ops fa j i = true := fun j h1 h2 h3 i h4 => by
  have := List.all_eq_true.1 h j (List.mem_range.2 h2)
  simp only [Bool.or_eq_true, decide_eq_true_eq, List.all_eq_true, List.mem_range] at this
  rcases this with (q | q) | q
  · omega
  · rw [q] at h3; cases h3
  · exact q i h4
/-- the region in a round: l the operations that only read, t the rest -/
theorem region_round_mix {id : Nat} {a : Act} {w : World} {l t : List Oper} {L : Nat} (fa : Nat) (hm : P.follows .mixedOrders = true) (hnd : noDefer (l ++ t).toArray = true) (hs : Region.noSelect (l ++ t).toArray = true)
    (hb : allBehind .any (l ++ t).toArray l.length fa E = true) (hlex : lexTo .any (l ++ t).toArray l.length 0 (Array.replicate (l ++ t).length false) = true)
    (hDC : ∀ listed w, D listed w → C w) (hDq : ∀ (listed : Array Bool) i w, i < l.length → (D (listed.setIfInBounds i true) w ↔ D listed w)) (hQ : ∀ c a d v w, Q (.panic c) (a.put d v) w → Q (.panic c) a w)
    (hD0 : D (Array.replicate (l ++ t).length false) w.drew)
    (h : wpSt Fence.wide P (l ++ t).toArray C (wpMix Fence.wide n P .any (l ++ t).toArray Q C D l.length E t.length (upTo l.length 0 (Array.replicate (l ++ t).length false))) l a) : (Code.region id (l ++ t).toArray true).wpIn (Fence.wide.inRound L) n P Q a w := by
  refine region_round hm hnd ?_
  have hsz : (l ++ t).toArray.size = l.length + t.length := by simp
  refine wpMix_sound (D := D) (C := C) (m := l.length) (E := E) rfl hDC hDq _ _ _ _ (by rw [List.size_toArray]; exact hD0) ?_
  rw [hsz, show l.length + t.length = (l ++ t).length by simp]
  have := wpMix_lex (F := Fence.wide) (n := n) (Q := Q) (C := C) (D := D) (E := E) (m := l.length) (md := .any) rfl hDq (allBehind_spec hb) hs hQ t.length l 0 (Array.replicate (l ++ t).length false) a
    (fun k o _ hk => by exfalso; simp [Array.getElem?_replicate] at hk; split at hk <;> simp at hk) (fun j hj => by simp [List.getElem?_append_left hj]) (by omega) hlex h
  rw [List.length_append]
  rw [List.length_append] at this
  exact this
/-- the same, the region as it stands; the first m operations only read -/
theorem region_mix {id : Nat} {a : Act} {w : World} {os : List Oper} {L : Nat} (m fa : Nat) (C : World → Prop) (D : Array Bool → World → Prop) (E : Nat → Bool) (hmo : m ≤ os.length) (hm : P.follows .mixedOrders = true) (hnd : noDefer os.toArray = true) (hs : Region.noSelect os.toArray = true)
    (hb : allBehind .any os.toArray m fa E = true) (hlex : lexTo .any os.toArray m 0 (Array.replicate os.length false) = true)
    (hDC : ∀ listed w, D listed w → C w) (hDq : ∀ (listed : Array Bool) i w, i < m → (D (listed.setIfInBounds i true) w ↔ D listed w)) (hQ : ∀ c a d v w, Q (.panic c) (a.put d v) w → Q (.panic c) a w)
    (hD0 : D (Array.replicate os.length false) w.drew)
    (h : wpSt Fence.wide P os.toArray C (wpMix Fence.wide n P .any os.toArray Q C D m E (os.length - m) (upTo m 0 (Array.replicate os.length false))) (os.take m) a) : (Code.region id os.toArray true).wpIn (Fence.wide.inRound L) n P Q a w := by
  obtain ⟨l, t, rfl, hl⟩ : ∃ l t, os = l ++ t ∧ l.length = m := ⟨os.take m, os.drop m, (List.take_append_drop m os).symm, by simp [hmo]⟩
  subst hl
  rw [List.take_left, show (l ++ t).length - l.length = t.length by simp] at h
  exact region_round_mix fa hm hnd hs hb hlex hDC hDq hQ hD0 h
/-- Q, where nothing panics -/
def npQ (Q : Exit → Act → World → Prop) : Exit → Act → World → Prop
  | .normal, a, w => Q .normal a w
  | _, _, _ => False
theorem npQ.normal {a : Act} {w : World} (h : Q .normal a w) : npQ Q .normal a w := h
theorem npQ.imp : ∀ (e : Exit) (a : Act) (w : World), npQ Q e a w → Q e a w := fun e a w h => by cases e <;> first | exact h | exact (h : False).elim
/-- the same outside of a loop over an iterator -/
theorem region_mix_wp {id : Nat} {a : Act} {w : World} {os : List Oper} (m fa : Nat) (C : World → Prop) (D : Array Bool → World → Prop) (E : Nat → Bool) (hmo : m ≤ os.length) (hm : P.follows .mixedOrders = true) (hs : Region.noSelect os.toArray = true)
    (hb : allBehind .any os.toArray m fa E = true) (hlex : lexTo .any os.toArray m 0 (Array.replicate os.length false) = true)
    (hDC : ∀ listed w, D listed w → C w) (hDq : ∀ (listed : Array Bool) i w, i < m → (D (listed.setIfInBounds i true) w ↔ D listed w))
    (hD0 : D (Array.replicate os.length false) w.drew)
    (h : wpSt Fence.wide P os.toArray C (wpMix Fence.wide 9 P .any os.toArray (npQ Q) C D m E (os.length - m) (upTo m 0 (Array.replicate os.length false))) (os.take m) a) : (Code.region id os.toArray true).wp P Q a w := by
  obtain ⟨l, t, rfl, hl⟩ : ∃ l t, os = l ++ t ∧ l.length = m := ⟨os.take m, os.drop m, (List.take_append_drop m os).symm, by simp [hmo]⟩
  subst hl
  rw [List.take_left, show (l ++ t).length - l.length = t.length by simp] at h
  refine Code.wp_mono npQ.imp (wpIn_wide.1 (wpIn_region_any (n := 9) hm ?_))
  have hsz : (l ++ t).toArray.size = l.length + t.length := by simp
  refine wpMix_sound (D := D) (C := C) (m := l.length) (E := E) rfl hDC hDq _ _ _ _ (by rw [List.size_toArray]; exact hD0) ?_
  rw [hsz, show l.length + t.length = (l ++ t).length by simp]
  have := wpMix_lex (F := Fence.wide) (n := 9) (Q := npQ Q) (C := C) (D := D) (E := E) (m := l.length) (md := .any) rfl hDq (allBehind_spec hb) hs (fun _ _ _ _ _ h => h) t.length l 0 (Array.replicate (l ++ t).length false) a
    (fun k o _ hk => by exfalso; simp [Array.getElem?_replicate] at hk; split at hk <;> simp at hk) (fun j hj => by simp [List.getElem?_append_left hj]) (by omega) hlex h
  rw [List.length_append]
  rw [List.length_append] at this
  exact this
/-- one of the rest comes, behind all that read -/
theorem mix_rest {i fu : Nat} {listed : Array Bool} {a : Act} (hr : Region.ready md ops listed = [i]) (hi : ¬ i < m) (hE : E i = false) (h : ∀ w, D listed w → wpOpIn F n P ops Q i (wpAnyIn F n P md ops Q fu (listed.setIfInBounds i true)) a w) : wpMix F n P md ops Q C D m E (fu + 1) listed a := by
  refine ⟨fun h0 => (by rw [hr] at h0; cases h0), fun j hj => ?_⟩
  rw [hr] at hj
  obtain rfl : j = i := by simpa using hj
  rw [if_neg hi, if_neg (by rw [hE]; decide)]
  exact h
/-- one of the rest comes that may come early -/
theorem mix_early {i fu : Nat} {listed : Array Bool} {a : Act} (hr : Region.ready md ops listed = [i]) (hi : ¬ i < m) (hE : E i = true) (h : ∀ w, D listed w → wpOpIn F n P ops Q i (fun a' w' => D (listed.setIfInBounds i true) w' ∧ wpMix F n P md ops Q C D m E fu (listed.setIfInBounds i true) a') a w) : wpMix F n P md ops Q C D m E (fu + 1) listed a := by
  refine ⟨fun h0 => (by rw [hr] at h0; cases h0), fun j hj => ?_⟩
  rw [hr] at hj
  obtain rfl : j = i := by simpa using hj
  rw [if_neg hi, if_pos hE]
  exact h
/-- append, as one operation -/
theorem opIn_append {w : World} {i : Nat} {o : Oper} {a : Act} {K : Act → World → Prop} (hoi : ops[i]? = some o) (hgd : o.guard = none) (s x : Operand) (t : TypeId) (ho : o.op = .call { callee := .builtin .append, args := #[s, x], argTypes := #[t, t] })
    (base : Nat) (e : TypeId) (inf : TypeInfo) (z : Value) (size bytes : Nat) (ht : P.underlying t = some (.slice e)) (hi : P.info? e = some inf) (hz : inf.zero = some z)
    (hsize : inf.size = size) (hby : inf.bytes = bytes) (hzs : z.cells.size = size) (hsz : 0 < size)
    (v : Value) (k : Nat) (xs : List Value) (hs : a.eval s = v) (hown : w.ownsRow base e size v k xs)
    (ad : Addr) (c m : Nat) (news : List Value) (hx : a.eval x = .slice (some ad) c m) (hl : news.length = c * size) (hnews : ∀ j u, news[j]? = some u → w.cell? (ad.add j) = some u) (h1 : ∀ u ∈ news, u.oneCell' = true)
    (hm : 0 < c) (h63 : k + c ≤ maxLen) (hbytes : (k + c) * bytes ≤ 140737488355328) (hbase : base ≤ w.heap.size) (H : Nat) (hH : w.heap.size = H)
    (h : ∀ g cap w', w'.ownsRow base e size (.slice (some ⟨g, 0, none⟩) (k + c) cap) (k + c) (xs ++ news) → w.grownBy w' v.ownBlock → (v.ownBlock = some g ∨ g = H) → g < w'.heap.size → K (a.put o.dst (.slice (some ⟨g, 0, none⟩) (k + c) cap)) w') : wpOpIn F n P ops Q i K a w := by
  obtain ⟨g, cap, w', hrun, h2, h3, h4, h5⟩ := run_append_lies (P := P) w t o.type base e inf z size bytes ht hi hz hsize hby hzs hsz v k xs hown ad c m news hl hnews h1 hm h63 hbytes hbase H hH
  have hw : Region.wanted o (yielded ops a.tmps) = true := by simp [Region.wanted, hgd]
  unfold wpOpIn
  simp only [hoi, hw, if_true]
  unfold Oper.wpIn
  refine ⟨?_, ?_⟩
  · simp [Oper.about, ho, resolve, Target.leads, Sem.run_pure]
  · rw [Oper.semAt_plain F _ _ (by rw [ho]; intro c hc'; cases hc')]
    simp [execOp, ho, resolve, invoke, builtin, hs, hx, hrun, Result.andThen]
    exact h g cap w' h2 h3 h4 h5
end

end Go.Proofs.YtfkljlncnfeklaaGreatDoor

/-! The search in memory: the fronts, their pairs, what a step keeps. -/
namespace Go.Proofs.YtfkljlncnfeklaaGreatDoor
open Go.RowKit Go.Shelf
set_option linter.unusedVariables false
set_option linter.unusedSimpArgs false

/-- from w to w' only block sb and blocks from H on may have changed -/
structure Mw (H sb : Nat) (w w' : World) : Prop where
  os : w'.os = w.os
  tape : w'.tape = w.tape
  output : w'.output = w.output
  size : w.heap.size ≤ w'.heap.size
  block : ∀ k, k < H → k ≠ sb → w'.heap[k]? = w.heap[k]?
theorem Mw.refl (H sb : Nat) (w : World) : Mw H sb w w := ⟨rfl, rfl, rfl, Nat.le_refl _, fun _ _ _ => rfl⟩
theorem Mw.trans {H sb : Nat} {a b c : World} (h : Mw H sb a b) (k : Mw H sb b c) : Mw H sb a c :=
  ⟨k.os.trans h.os, k.tape.trans h.tape, k.output.trans h.output, Nat.le_trans h.size k.size, fun i hi hn => (k.block i hi hn).trans (h.block i hi hn)⟩
theorem Mw.mono {H H' sb : Nat} {a b : World} (h : Mw H sb a b) (hH : H' ≤ H) : Mw H' sb a b := ⟨h.os, h.tape, h.output, h.size, fun i hi hn => h.block i (by omega) hn⟩
theorem Mw.grown {H sb : Nat} {a b c : World} {row : Option Nat} (h : Mw H sb a b) (g : b.grownBy c row) (hH : H ≤ b.heap.size) (hr : ∀ r, row = some r → H ≤ r ∨ r = sb) : Mw H sb a c :=
  h.trans ⟨g.os, g.tape, g.output, g.size, fun k hk hn => g.block k (by omega) (fun e => by rcases hr k e.symm with q | q <;> omega)⟩
theorem Mw.of_below {H sb : Nat} {a b : World} (h : Below H a b) : Mw H sb a b := ⟨h.os, h.tape, h.output, h.size, fun k hk _ => h.block k hk⟩
theorem Mw.drew {H sb : Nat} {a b : World} (h : Mw H sb a b) : Mw H sb a b.drew := ⟨h.os, h.tape, h.output, h.size, h.block⟩
theorem Mw.below {H sb : Nat} {a b : World} (h : Mw H sb a b) (hs : H ≤ sb) : Below H a b := ⟨h.os, h.tape, h.output, h.size, fun k hk => h.block k hk (by omega)⟩
theorem own_block {w w' : World} {B e size n : Nat} {v : Value} {xs : List Value} (h : w.ownsRow B e size v n xs) (hb : ∀ k, v.ownBlock = some k → w'.heap[k]? = w.heap[k]?) : w'.ownsRow B e size v n xs := by
  obtain ⟨h1, h2⟩ := h
  refine ⟨h1, ?_⟩
  rcases h2 with h2 | ⟨g, cap, cur, rfl, h3, h4, h5⟩
  · exact .inl h2
  · exact .inr ⟨g, cap, cur, rfl, h3, (hb g rfl).trans h4, h5⟩
/-- the pairs' cells -/
def prC (a b : Rx) : List (Nat × Nat) → List Value
  | [] => []
  | x :: l => .int .i64 (x.1 : Int) :: .int .i64 (x.2 : Int) :: .int .i64 (leN a b x : Int) :: prC a b l
section
variable (a b : Rx)
theorem prC_len : ∀ l, (prC a b l).length = l.length * 3
  | [] => rfl
  | x :: l => by show (prC a b l).length + 1 + 1 + 1 = (l.length + 1) * 3; rw [prC_len l]; omega
theorem prC_app : ∀ l m, prC a b (l ++ m) = prC a b l ++ prC a b m
  | [], _ => rfl
  | x :: l, m => by show _ :: _ :: _ :: prC a b (l ++ m) = _; rw [prC_app l m]; rfl
theorem prC_at : ∀ (l : List (Nat × Nat)) {i : Nat} {x : Nat × Nat}, l[i]? = some x → (prC a b l)[i * 3]? = some (.int .i64 (x.1 : Int)) ∧ (prC a b l)[i * 3 + 1]? = some (.int .i64 (x.2 : Int)) ∧ (prC a b l)[i * 3 + 2]? = some (.int .i64 (leN a b x : Int))
  | [], i, x, h => by simp at h
  | y :: l, 0, x, h => by
    obtain rfl : y = x := by simpa using h
    exact ⟨rfl, rfl, rfl⟩
  | y :: l, i + 1, x, h => by
    have ih := prC_at l (i := i) (x := x) (by simpa using h)
    have e : ∀ j, (prC a b (y :: l))[(i + 1) * 3 + j]? = (prC a b l)[i * 3 + j]? := fun j => by
      rw [show (i + 1) * 3 + j = i * 3 + j + 1 + 1 + 1 by omega]
      rfl
    exact ⟨(e 0).trans ih.1, (e 1).trans ih.2.1, (e 2).trans ih.2.2⟩
end
/-- a front: the one before it, its last byte, its text, its pairs and where they lie -/
structure Fr where
  be : Int
  la : UInt8
  tx : List UInt8
  ps : List (Nat × Nat)
  pb : Nat
  pc : Nat
def frZ : Fr := ⟨-1, 0, [], [], 0, 0⟩
def frC : List Fr → List Value
  | [] => []
  | f :: l => .int .i64 f.be :: .int .u8 ((f.la.toNat : Nat) : Int) :: .slice (some ⟨f.pb, 0, none⟩) f.ps.length f.pc :: frC l
theorem frC_len : ∀ l, (frC l).length = l.length * 3
  | [] => rfl
  | x :: l => by show (frC l).length + 1 + 1 + 1 = (l.length + 1) * 3; rw [frC_len l]; omega
theorem frC_app : ∀ l m, frC (l ++ m) = frC l ++ frC m
  | [], _ => rfl
  | x :: l, m => by show _ :: _ :: _ :: frC (l ++ m) = _; rw [frC_app l m]; rfl
theorem frC_at : ∀ (l : List Fr) {i : Nat}, i < l.length → (frC l)[i * 3]? = some (.int .i64 (l.getD i frZ).be) ∧ (frC l)[i * 3 + 1]? = some (.int .u8 (((l.getD i frZ).la.toNat : Nat) : Int)) ∧ (frC l)[i * 3 + 2]? = some (.slice (some ⟨(l.getD i frZ).pb, 0, none⟩) (l.getD i frZ).ps.length (l.getD i frZ).pc)
  | [], i, h => by simp at h
  | y :: l, 0, h => ⟨rfl, rfl, rfl⟩
  | y :: l, i + 1, h => by
    have ih := frC_at l (i := i) (by simpa using h)
    have e : ∀ j, (frC (y :: l))[(i + 1) * 3 + j]? = (frC l)[i * 3 + j]? := fun j => by
      rw [show (i + 1) * 3 + j = i * 3 + j + 1 + 1 + 1 by omega]
      rfl
    exact ⟨(e 0).trans ih.1, (e 1).trans ih.2.1, (e 2).trans ih.2.2⟩
/-- the search's block and its two tables: w2 the world behind the two machines -/
structure SrB (w2 W : World) (mb1 mb2 ab sb n : Nat) (ag sn : List (List Nat)) (vf : Value) : Prop where
  bel : Below w2.heap.size w2 W
  bx : Bx W w2.heap.size #[.pointer (some ⟨mb1, 0, none⟩), .pointer (some ⟨mb2, 0, none⟩), .slice (some ⟨ab, 0, none⟩) n n, .slice (some ⟨sb, 0, none⟩) n n, vf] 118
  oa : FoO W w2.heap.size ab n ag
  os : FoO W w2.heap.size sb n sn
  la : ag.length = n
  ls : sn.length = n
  ne : ab ≠ sb
theorem SrA.b {w2 W : World} {mb1 mb2 ab sb n : Nat} {ag sn : List (List Nat)} (h : SrA w2 W mb1 mb2 ab sb n ag sn) : SrB w2 W mb1 mb2 ab sb n ag sn (.slice none 0 0) := ⟨h.bel, h.bx, h.oa, h.os, h.la, h.ls, h.ne⟩
section
variable {w2 W W' : World} {mb1 mb2 ab sb n : Nat} {ag sn : List (List Nat)} {vf : Value}
theorem SrB.lt (h : SrB w2 W mb1 mb2 ab sb n ag sn vf) : w2.heap.size < W.heap.size := h.bx.lt
theorem SrB.xa (h : SrB w2 W mb1 mb2 ab sb n ag sn vf) : ab ≠ w2.heap.size := fun e => own_ne h.oa h.bx (by decide) (by rw [← e]; rfl)
theorem SrB.xs (h : SrB w2 W mb1 mb2 ab sb n ag sn vf) : sb ≠ w2.heap.size := fun e => own_ne h.os h.bx (by decide) (by rw [← e]; rfl)
/-- only new blocks have changed -/
theorem SrB.kept {row : Option Nat} (h : SrB w2 W mb1 mb2 ab sb n ag sn vf) (g : W.grownBy W' row) (hr : ∀ r, row = some r → w2.heap.size < r ∧ r ≠ ab ∧ r ≠ sb) : SrB w2 W' mb1 mb2 ab sb n ag sn vf :=
  ⟨h.bel.grown g h.bel.size (fun r e => Nat.le_of_lt (hr r e).1), (g.block _ h.lt (fun e => by have := (hr _ e.symm).1; omega)).trans h.bx, h.oa.kept g (fun r e => (hr r e).2.1), h.os.kept g (fun r e => (hr r e).2.2), h.la, h.ls, h.ne⟩
theorem SrB.later (h : SrB w2 W mb1 mb2 ab sb n ag sn vf) (hb : Below W.heap.size W W') : SrB w2 W' mb1 mb2 ab sb n ag sn vf :=
  h.kept (row := none) ⟨hb.os, hb.tape, hb.output, hb.size, fun k hk _ => hb.block k hk⟩ (fun r e => by cases e)
theorem SrB.drew (h : SrB w2 W mb1 mb2 ab sb n ag sn vf) : SrB w2 W.drew mb1 mb2 ab sb n ag sn vf := ⟨h.bel.drew, h.bx, h.oa.drew, h.os.drew, h.la, h.ls, h.ne⟩
/-- a row of sets is seen more -/
theorem SrB.seen (h : SrB w2 W mb1 mb2 ab sb n ag sn vf) {p : Nat} (hp : p < n) (ws : List Nat) : SrB w2 (stP4 W sb (p * 4) ws 4) mb1 mb2 ab sb n ag (sn.set p ws) vf := by
  have g := stP4_grown W sb (p * 4) ws 4
  exact ⟨h.bel.grown g h.bel.size (fun r e => by cases e; exact h.os.lt.1), (g.block _ h.lt (fun e => h.xs (Option.some.inj e).symm)).trans h.bx, h.oa.kept g (fun r e => by cases e; exact fun q => h.ne q.symm), h.os.set (by rw [h.ls]; exact hp) ws, h.la, by rw [List.length_set]; exact h.ls, h.ne⟩
end

end Go.Proofs.YtfkljlncnfeklaaGreatDoor

/-! What the search's meet keeps in memory. -/
namespace Go.Proofs.YtfkljlncnfeklaaGreatDoor
open Go.RowKit Go.Shelf
set_option linter.unusedVariables false
set_option linter.unusedSimpArgs false

theorem own_not {w : World} {B e size n : Nat} {v : Value} {xs : List Value} (h : w.ownsRow B e size v n xs) {r : Nat} {o : Obj} (ho : w.heap[r]? = some o) (hn : ∀ cs fz, o ≠ .cells cs e fz) : v.ownBlock ≠ some r := by
  intro e1
  rcases h.2 with ⟨rfl, _⟩ | ⟨q, cap, cur, rfl, _, hq, _⟩
  · cases e1
  · have e2 : q = r := Option.some.inj e1
    subst e2
    rw [ho] at hq
    exact hn _ _ (Option.some.inj hq)
theorem own_ty {w : World} {B B' e e' size size' n n' : Nat} {v v' : Value} {xs xs' : List Value} (h : w.ownsRow B e size v n xs) (h' : w.ownsRow B' e' size' v' n' xs') (he : e ≠ e') {k : Nat} (hk : v.ownBlock = some k) : v'.ownBlock ≠ some k := by
  rcases h.2 with ⟨rfl, _⟩ | ⟨q, cap, cur, rfl, _, hq, _⟩
  · cases hk
  · have e1 : q = k := Option.some.inj hk
    subst e1
    exact own_ne h' hq he
theorem FoO.own {w : World} {B f cap : Nat} {fl : List (List Nat)} (h : FoO w B f cap fl) : w.ownsRow B 95 4 (.slice (some ⟨f, 0, none⟩) fl.length cap) fl.length (flC fl) := h
theorem not_cells {o : Obj} (h : o.isCells = false) (T : Nat) : ∀ cs fz, o ≠ .cells cs T fz := by
  rintro cs fz rfl
  cases h
structure MtS (w2 w W : World) (mb1 mb2 ab sb n H : Nat) (a b : Rx) (ag : List (List Nat)) (vf : Value) (gq oq : Nat) (l : List (Nat × Nat)) (sn : List (List Nat)) : Prop where
  x0 : Bx W w.heap.size #[.pointer (some ⟨w2.heap.size, 0, none⟩)] 73
  x1 : ∃ v, Bx W (w.heap.size + 1) #[v] 120 ∧ W.ownsRow H 148 3 v l.length (prC a b l)
  x2 : Bx W (w.heap.size + 1 + 1) #[.pointer (some ⟨gq, oq, none⟩)] 107
  sr : SrB w2 W mb1 mb2 ab sb n ag sn vf
  mw : Mw H sb w W
  ha : ab < w.heap.size
  hs : sb < w.heap.size
  h2 : w2.heap.size < w.heap.size
  hH : w2.heap.size < H
  hHw : H ≤ w.heap.size
section
variable {w2 w W W' : World} {mb1 mb2 ab sb n H : Nat} {a b : Rx} {ag : List (List Nat)} {vf : Value} {gq oq : Nat} {l : List (Nat × Nat)} {sn : List (List Nat)}
theorem MtS.kept {row : Option Nat} (h : MtS w2 w W mb1 mb2 ab sb n H a b ag vf gq oq l sn) (g : W.grownBy W' row) (hr : ∀ r, row = some r → w.heap.size + 1 + 1 < r ∧ ∃ o, W.heap[r]? = some o ∧ ∀ cs fz, o ≠ .cells cs 148 fz) : MtS w2 w W' mb1 mb2 ab sb n H a b ag vf gq oq l sn := by
  have hb : ∀ k, k < W.heap.size → k ≤ w.heap.size + 1 + 1 → W'.heap[k]? = W.heap[k]? := fun k hk hk2 => g.block k hk (fun e => by have := (hr k e.symm).1; omega)
  obtain ⟨v, h1, h3⟩ := h.x1
  have e1 := h.ha; have e2 := h.hs; have e3 := h.h2; have e4 := h.hH; have e5 := h.hHw
  have hv : v.ownBlock = none ∨ v.ownBlock ≠ row := by
    cases hk : v.ownBlock with
    | none => exact .inl rfl
    | some k =>
      right
      intro e
      obtain ⟨_, o, ho, hn⟩ := hr k e.symm
      exact own_not h3 ho hn hk
  exact ⟨(hb _ h.x0.lt (by omega)).trans h.x0, ⟨v, (hb _ h1.lt (by omega)).trans h1, h3.kept g hv⟩, (hb _ h.x2.lt (by omega)).trans h.x2, h.sr.kept g (fun r e => by have := (hr r e).1; omega), h.mw.grown g (Nat.le_trans h.hHw h.mw.size) (fun r e => .inl (by have := (hr r e).1; omega)), e1, e2, e3, e4, e5⟩
theorem MtS.drewN (h : MtS w2 w W mb1 mb2 ab sb n H a b ag vf gq oq l sn) (d : Nat) : MtS w2 w (W.drewN d) mb1 mb2 ab sb n H a b ag vf gq oq l sn :=
  h.kept (row := none) ⟨rfl, rfl, rfl, Nat.le_refl _, fun _ _ _ => rfl⟩ (fun r e => by cases e)
theorem MtS.alloc (h : MtS w2 w W mb1 mb2 ab sb n H a b ag vf gq oq l sn) (o : Obj) : MtS w2 w (W.alloc o) mb1 mb2 ab sb n H a b ag vf gq oq l sn :=
  h.kept (World.grownBy_alloc W o none) (fun r e => by cases e)
theorem MtS.sz (h : MtS w2 w W mb1 mb2 ab sb n H a b ag vf gq oq l sn) : w.heap.size + 1 + 1 < W.heap.size := h.x2.lt
/-- a row of sets is seen more -/
theorem MtS.seen (h : MtS w2 w W mb1 mb2 ab sb n H a b ag vf gq oq l sn) {i : Nat} (hi : i < n) (ws : List Nat) (d : Nat) : MtS w2 w ((stP4 W sb (i * 4) ws 4).drewN d) mb1 mb2 ab sb n H a b ag vf gq oq l (sn.set i ws) := by
  refine MtS.drewN ?_ d
  have g := stP4_grown W sb (i * 4) ws 4
  obtain ⟨v, h1, h3⟩ := h.x1
  have e1 := h.ha; have e2 := h.hs; have e3 := h.h2; have e4 := h.hH; have e5 := h.hHw
  have hb : ∀ k, k < W.heap.size → k ≠ sb → (stP4 W sb (i * 4) ws 4).heap[k]? = W.heap[k]? := fun k hk hn => g.block k hk (fun e => hn (Option.some.inj e))
  refine ⟨(hb _ h.x0.lt (by omega)).trans h.x0, ⟨v, (hb _ h1.lt (by omega)).trans h1, h3.kept g ?_⟩, (hb _ h.x2.lt (by omega)).trans h.x2, h.sr.seen hi ws, h.mw.grown g (Nat.le_trans h.hHw h.mw.size) (fun r e => by cases e; exact .inr rfl), e1, e2, e3, e4, e5⟩
  cases hk : v.ownBlock with
  | none => exact .inl rfl
  | some k =>
    right
    intro e
    exact own_ty h3 h.sr.os.own (by decide) hk (by rw [e]; rfl)
/-- a pair comes in -/
theorem MtS.push (h : MtS w2 w W mb1 mb2 ab sb n H a b ag vf gq oq l sn) {v : Value} (hx : Bx W (w.heap.size + 1) #[v] 120) (hv : W.ownsRow H 148 3 v l.length (prC a b l)) {Wa : World} (hb : Below W.heap.size W Wa)
    {g cap : Nat} (y : Nat × Nat) (hown : W'.ownsRow H 148 3 (.slice (some ⟨g, 0, none⟩) (l.length + 1) cap) (l.length + 1) (prC a b l ++ prC a b [y])) (hg : Wa.grownBy W' v.ownBlock) :
    MtS w2 w (W'.setCell ⟨w.heap.size + 1, 0, none⟩ (.slice (some ⟨g, 0, none⟩) (l.length + 1) cap)) mb1 mb2 ab sb n H a b ag vf gq oq (l ++ [y]) sn := by
  have e1 := h.ha; have e2 := h.hs; have e3 := h.h2; have e4 := h.hH; have e5 := h.hHw
  have hsz := h.sz
  have hba := hb.size
  have hvt : ∀ {k T : Nat} {cs : Array Value}, Bx W k cs T → T ≠ 148 → v.ownBlock ≠ some k := fun q ne => own_ne hv q ne
  have keep : ∀ k, k < W.heap.size → v.ownBlock ≠ some k → k ≠ w.heap.size + 1 → (W'.setCell ⟨w.heap.size + 1, 0, none⟩ (.slice (some ⟨g, 0, none⟩) (l.length + 1) cap)).heap[k]? = W.heap[k]? := fun k hk hn h1 =>
    (hp_set W' _ _ _ h1).trans ((hg.block k (by omega) (fun e => hn e.symm)).trans (hb.block k hk))
  have hoa := h.sr.oa.own
  have hos := h.sr.os.own
  have va : v.ownBlock ≠ some ab := fun e => own_ty hv hoa (by decide) e rfl
  have vs : v.ownBlock ≠ some sb := fun e => own_ty hv hos (by decide) e rfl
  have x1 : Bx W' (w.heap.size + 1) #[v] 120 := (hg.block _ (by omega) (fun e => hvt hx (by decide) e.symm)).trans ((hb.block _ hx.lt).trans hx)
  have hs' : Below w2.heap.size W (W'.setCell ⟨w.heap.size + 1, 0, none⟩ (.slice (some ⟨g, 0, none⟩) (l.length + 1) cap)) := by
    have b1 : Below w2.heap.size W W' := (hb.mono (by omega)).trans (by
      refine ⟨hg.os, hg.tape, hg.output, hg.size, fun k hk => hg.block k (by omega) (fun e => ?_)⟩
      have := World.ownsRow.lt hv k e.symm
      omega)
    exact b1.setCell (p := ⟨w.heap.size + 1, 0, none⟩) (by show w2.heap.size ≤ w.heap.size + 1; omega) _
  have so : ∀ {B T s m : Nat} {u : Value} {xs : List Value}, W.ownsRow B T s u m xs → T ≠ 148 → u.ownBlock ≠ some (w.heap.size + 1) → (W'.setCell ⟨w.heap.size + 1, 0, none⟩ (.slice (some ⟨g, 0, none⟩) (l.length + 1) cap)).ownsRow B T s u m xs := fun q ne n1 =>
    own_block q (fun k hk => keep k (World.ownsRow.lt q k hk).2 (fun e => own_ty hv q (fun e => ne e.symm) e hk) (fun e => n1 (by rw [hk, e])))
  refine ⟨(keep _ h.x0.lt (hvt h.x0 (by decide)) (by omega)).trans h.x0, ⟨_, heap_set W' _ 0 _ x1, ?_⟩, (keep _ h.x2.lt (hvt h.x2 (by decide)) (by omega)).trans h.x2, ?_, ?_, e1, e2, e3, e4, e5⟩
  · rw [prC_app, List.length_append]
    exact own_block hown (fun k hk => hp_set W' _ _ _ (fun e => by
      subst e
      have := own_ne hown x1 (by decide)
      exact this hk))
  · exact ⟨h.sr.bel.trans hs', (keep _ h.sr.lt (hvt h.sr.bx (by decide)) (by omega)).trans h.sr.bx, so hoa (by decide) (fun e => by have e : ab = w.heap.size + 1 := Option.some.inj e; omega), so hos (by decide) (fun e => by have e : sb = w.heap.size + 1 := Option.some.inj e; omega), h.sr.la, h.sr.ls, h.sr.ne⟩
  · refine h.mw.trans ⟨hs'.os, hs'.tape, hs'.output, hs'.size, fun k hk hn => ?_⟩
    by_cases c : v.ownBlock = some k
    · have := World.ownsRow.lt hv k c
      omega
    · exact keep k (by have := h.mw.size; omega) c (by omega)
end

theorem pl_f4A {W : World} {g T : Nat} {ws : List Nat} (h : Bx W g (w4A ws) T) : Pl W g 0 ws := fun i hi => by
  rw [Nat.zero_add]
  refine ⟨?_, frozen_of_row _ _ i _ _ h⟩
  rw [h.cell i]
  rcases (show i = 0 ∨ i = 1 ∨ i = 2 ∨ i = 3 by omega) with e | e | e | e <;> rw [e] <;> rfl
theorem bx_f4A {W : World} {g T : Nat} {ws0 : List Nat} (h : Bx W g (w4A ws0) T) (ws : List Nat) : Bx (stP4 W g 0 ws 4) g (w4A ws) T := by
  have h1 := heap_set _ g (0 + 0) (.int .u64 ((gW ws 0 : Nat) : Int)) h
  have h2 := heap_set _ g (0 + 1) (.int .u64 ((gW ws 1 : Nat) : Int)) h1
  have h3 := heap_set _ g (0 + 2) (.int .u64 ((gW ws 2 : Nat) : Int)) h2
  exact heap_set _ g (0 + 3) (.int .u64 ((gW ws 3 : Nat) : Int)) h3
theorem Pl.block {w w' : World} {g o : Nat} {ws : List Nat} (h : Pl w g o ws) (hb : w'.heap[g]? = w.heap[g]?) : Pl w' g o ws := fun i hi => ⟨(World.cell?_of_block hb).trans (h i hi).1, (World.frozen?_of_block hb).trans (h i hi).2⟩
/-- the start: four boxes -/
theorem mts_start {w2 w : World} {mb1 mb2 ab sb n H : Nat} {a b : Rx} {ag sn : List (List Nat)} {vf : Value} {gq oq gp op : Nat} {l : List (Nat × Nat)} {v : Value} (hS : SrB w2 w mb1 mb2 ab sb n ag sn vf) (hrow : w.ownsRow H 148 3 v l.length (prC a b l)) (hH : w2.heap.size < H) (hHw : H ≤ w.heap.size) :
    ∀ W, (((w.alloc (.cells #[.pointer (some ⟨w2.heap.size, 0, none⟩)] 73)).alloc (.cells #[v] 120)).alloc (.cells #[.pointer (some ⟨gq, oq, none⟩)] 107)).alloc (.cells #[.pointer (some ⟨gp, op, none⟩)] 107) = W →
    Hid (MtS w2 w W mb1 mb2 ab sb n H a b ag vf gq oq l sn) ∧ Hid (Bx W (w.heap.size + 1 + 1 + 1) #[.pointer (some ⟨gp, op, none⟩)] 107) ∧ W.heap.size = w.heap.size + 1 + 1 + 1 + 1 := by
  rintro W rfl
  have hb : Below w.heap.size w ((((w.alloc (.cells #[.pointer (some ⟨w2.heap.size, 0, none⟩)] 73)).alloc (.cells #[v] 120)).alloc (.cells #[.pointer (some ⟨gq, oq, none⟩)] 107)).alloc (.cells #[.pointer (some ⟨gp, op, none⟩)] 107)) :=
    ((((Below.refl _ w).alloc (Nat.le_refl _) _).alloc (by simp) _).alloc (by simp; omega) _).alloc (by simp; omega) _
  refine ⟨Lib.hid ⟨bx_al (bx_al (bx_al (bx_new rfl _ _) _) _) _, ⟨v, bx_al (bx_al (bx_new (by simp) _ _) _) _, own_block hrow (fun k hk => hb.block k (World.ownsRow.lt hrow k hk).2)⟩, bx_al (bx_new (by simp) _ _) _, hS.later hb, Mw.of_below (hb.mono hHw), hS.oa.lt.2, hS.os.lt.2, hS.lt, hH, hHw⟩, Lib.hid (bx_new (by simp) _ _), by simp⟩
/-- a round: the place in its box, its new partners in a block -/
structure FrS (w2 w W W' : World) (mb1 mb2 ab sb n H : Nat) (a b : Rx) (ag : List (List Nat)) (vf : Value) (gq oq B Bi Bf i : Nat) (fr : List Nat) (l : List (Nat × Nat)) (sn : List (List Nat)) : Prop where
  ms : MtS w2 w W' mb1 mb2 ab sb n H a b ag vf gq oq l sn
  bi : Bx W' Bi #[.int .i64 (i : Int)] 3
  bf : Bx W' Bf (w4A fr) 95
  kf : KeepsFrom B W W'
  li : w.heap.size + 1 + 1 < Bi
  lf : w.heap.size + 1 + 1 < Bf
section
variable {w2 w W W' W'' : World} {mb1 mb2 ab sb n H : Nat} {a b : Rx} {ag : List (List Nat)} {vf : Value} {gq oq B Bi Bf i : Nat} {fr : List Nat} {l : List (Nat × Nat)} {sn : List (List Nat)}
theorem FrS.ne (h : FrS w2 w W W' mb1 mb2 ab sb n H a b ag vf gq oq B Bi Bf i fr l sn) : Bi ≠ Bf := bx_ne h.bi h.bf (by decide)
theorem FrS.drewN (h : FrS w2 w W W' mb1 mb2 ab sb n H a b ag vf gq oq B Bi Bf i fr l sn) (d : Nat) : FrS w2 w W (W'.drewN d) mb1 mb2 ab sb n H a b ag vf gq oq B Bi Bf i fr l sn :=
  ⟨h.ms.drewN d, h.bi, h.bf, h.kf.trans ((keeps_drewN _ _).from B), h.li, h.lf⟩
theorem FrS.alloc (h : FrS w2 w W W' mb1 mb2 ab sb n H a b ag vf gq oq B Bi Bf i fr l sn) (o : Obj) : FrS w2 w W (W'.alloc o) mb1 mb2 ab sb n H a b ag vf gq oq B Bi Bf i fr l sn :=
  ⟨h.ms.alloc o, bx_al h.bi o, bx_al h.bf o, h.kf.trans ((KeepsOthers.alloc _ _).from B), h.li, h.lf⟩
/-- the partners change -/
theorem FrS.step (h : FrS w2 w W W' mb1 mb2 ab sb n H a b ag vf gq oq B Bi Bf i fr l sn) (ws : List Nat) (d : Nat) : FrS w2 w W ((stP4 W' Bf 0 ws 4).drewN d) mb1 mb2 ab sb n H a b ag vf gq oq B Bi Bf i ws l sn := by
  refine FrS.drewN ?_ d
  have g := stP4_grown W' Bf 0 ws 4
  have hlf := h.lf
  exact ⟨h.ms.kept g (fun r e => by cases e; exact ⟨h.lf, _, h.bf, fun cs fz e => by injection e with _ e; exact absurd e (by decide)⟩), (g.block _ h.bi.lt (fun e => h.ne (Option.some.inj e))).trans h.bi, bx_f4A h.bf ws, h.kf.trans ((stP4_keeps _ _ _ _ _).from B), h.li, h.lf⟩
theorem FrS.seen (h : FrS w2 w W W' mb1 mb2 ab sb n H a b ag vf gq oq B Bi Bf i fr l sn) {p : Nat} (hp : p < n) (ws : List Nat) (d : Nat) : FrS w2 w W ((stP4 W' sb (p * 4) ws 4).drewN d) mb1 mb2 ab sb n H a b ag vf gq oq B Bi Bf i fr l (sn.set p ws) := by
  have g := stP4_grown W' sb (p * 4) ws 4
  have e2 := h.ms.hs
  have := h.li
  have := h.lf
  exact ⟨h.ms.seen hp ws d, (g.block _ h.bi.lt (fun e => by have := Option.some.inj e; omega)).trans h.bi, (g.block _ h.bf.lt (fun e => by have := Option.some.inj e; omega)).trans h.bf, h.kf.trans (((stP4_keeps _ _ _ _ _).from B).trans ((keeps_drewN _ _).from B)), h.li, h.lf⟩
theorem push_keeps {v : Value} (hv : W'.ownsRow H 148 3 v l.length (prC a b l)) {o : Obj} {d : Nat} (hg : ((W'.drewN d).alloc o).grownBy W'' v.ownBlock) (p : Addr) (u : Value) : KeepsOthers W' (W''.setCell p u) := by
  have hb : Below W'.heap.size W' ((W'.drewN d).alloc o) := (below_drewN (Below.refl _ W') d).alloc (Nat.le_refl _) _
  refine KeepsOthers.trans (KeepsOthers.trans (KeepsOthers.trans (⟨Nat.le_refl _, fun _ _ h _ => h⟩ : KeepsOthers W' (W'.drewN d)) (KeepsOthers.alloc _ o)) (KeepsOthers.of_grownBy hg (fun j o' e he => ?_))) (KeepsOthers.setCell _ _ _)
  rcases hv.2 with ⟨rfl, _⟩ | ⟨q, cap', cur, rfl, _, hq, _⟩
  · cases e
  · have e1 : q = j := Option.some.inj e
    subst e1
    have hlt := (Array.getElem?_eq_some_iff.1 hq).1
    rw [hb.block q hlt, hq] at he
    cases he
    rfl
theorem FrS.push (h : FrS w2 w W W' mb1 mb2 ab sb n H a b ag vf gq oq B Bi Bf i fr l sn) {v : Value} (hx : Bx W' (w.heap.size + 1) #[v] 120) (hv : W'.ownsRow H 148 3 v l.length (prC a b l)) {o : Obj} {d g cap : Nat} (y : Nat × Nat)
    (hown : W''.ownsRow H 148 3 (.slice (some ⟨g, 0, none⟩) (l.length + 1) cap) (l.length + 1) (prC a b l ++ prC a b [y])) (hg : ((W'.drewN d).alloc o).grownBy W'' v.ownBlock) :
    FrS w2 w W (W''.setCell ⟨w.heap.size + 1, 0, none⟩ (.slice (some ⟨g, 0, none⟩) (l.length + 1) cap)) mb1 mb2 ab sb n H a b ag vf gq oq B Bi Bf i fr (l ++ [y]) sn := by
  have hb : Below W'.heap.size W' ((W'.drewN d).alloc o) := (below_drewN (Below.refl _ W') d).alloc (Nat.le_refl _) _
  have hli := h.li
  have hlf := h.lf
  have keep : ∀ {k T : Nat} {cs : Array Value}, Bx W' k cs T → T ≠ 148 → k ≠ w.heap.size + 1 → Bx (W''.setCell ⟨w.heap.size + 1, 0, none⟩ (.slice (some ⟨g, 0, none⟩) (l.length + 1) cap)) k cs T := fun q ne n1 =>
    (hp_set W'' _ _ _ n1).trans ((hg.block _ (Nat.lt_of_lt_of_le q.lt hb.size) (fun e => own_ne hv q ne e.symm)).trans ((hb.block _ q.lt).trans q))
  exact ⟨h.ms.push hx hv hb y hown hg, keep h.bi (by decide) (by omega), keep h.bf (by decide) (by omega), h.kf.trans ((push_keeps hv hg _ _).from B), h.li, h.lf⟩
theorem ownFrom_frs {β : Type} {B0 : Nat} {f : β → List (Nat × Nat)} (hB : w.heap.size + 1 + 1 < B0) (hW : W.heap.size ≤ B0) :
    OwnFrom B0 (fun (s : β) W' => FrS w2 w W W' mb1 mb2 ab sb n H a b ag vf gq oq B Bi Bf i fr (f s) sn) := fun s X Y row hs hg hr => by
  have keep : ∀ {k T : Nat} {cs : Array Value}, Bx X k cs T → Bx Y k cs T := fun q => (hg.block _ q.lt (fun e => by
    obtain ⟨_, o, h2, h3⟩ := hr _ e.symm
    rw [show X.heap[_]? = _ from q] at h2
    cases h2
    cases h3)).trans q
  refine ⟨hs.ms.kept hg (fun r e => ?_), keep hs.bi, keep hs.bf, ownFrom_keepsFrom (β := Unit) hW () X Y row hs.kf hg hr, hs.li, hs.lf⟩
  obtain ⟨h1, o, h2, h3⟩ := hr r e
  exact ⟨by omega, o, h2, not_cells h3 _⟩
theorem FrS.kps (h : FrS w2 w W W' mb1 mb2 ab sb n H a b ag vf gq oq B Bi Bf i fr l sn) {l' : List (Nat × Nat)} {sn' : List (List Nat)} (h' : FrS w2 w W W'' mb1 mb2 ab sb n H a b ag vf gq oq B Bi Bf i fr l' sn') (hts : 2 < w2.heap.size) : KpS Bf W' W'' := by
  have e1 := h.ms.hH
  have e2 := h.ms.sr.os.lt.1
  refine ⟨h'.bf.trans h.bf.symm, ?_⟩
  rw [h'.ms.mw.block _ (by omega) (by omega), h.ms.mw.block _ (by omega) (by omega)]
theorem MtS.kps {l' : List (Nat × Nat)} {sn' : List (List Nat)} (h : MtS w2 w W mb1 mb2 ab sb n H a b ag vf gq oq l sn) (h' : MtS w2 w W' mb1 mb2 ab sb n H a b ag vf gq oq l' sn') {gp : Nat} (hp : gp < w2.heap.size) (hts : 2 < w2.heap.size) : KpS gp W W' := by
  have e1 := h.hH
  have e2 := h.sr.os.lt.1
  exact ⟨by rw [h'.mw.block _ (by omega) (by omega), h.mw.block _ (by omega) (by omega)], by rw [h'.mw.block _ (by omega) (by omega), h.mw.block _ (by omega) (by omega)]⟩
end

/-- a world behind some draws, and behind one more block -/
def wz (W : World) (o : Obj) (k : Nat) : World := if k % 2 = 0 then W.drewN (k / 2) else (W.drewN (k / 2)).alloc o
theorem wz_0 (W : World) (o : Obj) (d : Nat) : wz W o (2 * d) = W.drewN d := by
  unfold wz
  rw [if_pos (by omega), show 2 * d / 2 = d by omega]
theorem wz_1 (W : World) (o : Obj) (d : Nat) : wz W o (2 * d + 1) = (W.drewN d).alloc o := by
  unfold wz
  rw [if_neg (by omega), show (2 * d + 1) / 2 = d by omega]
theorem wz_cell {W : World} {k : Nat} (hk : k < W.heap.size) (j : Nat) {v : Option Value} (h : W.cell? ⟨k, j, none⟩ = v) (o : Obj) (d : Nat) : (wz W o d).cell? ⟨k, j, none⟩ = v := by
  unfold wz
  split
  · exact h
  · exact (World.cell?_of_block (w := W) ((((below_drewN (Below.refl _ W) (d / 2)).alloc (Nat.le_refl _) o)).block k hk)).trans h
def dz (W : World) (o : Obj) (i : Nat) (listed : Array Bool) (w' : World) : Prop := if listed.getD i false = true then ∃ d, w' = (W.drewN d).alloc o else ∃ d, w' = W.drewN d
theorem dz_no {W w' : World} {o : Obj} {i : Nat} {l : Array Bool} (h : l.getD i false = false) : dz W o i l w' ↔ ∃ d, w' = W.drewN d := by unfold dz; rw [h]; simp
theorem dz_yes {W w' : World} {o : Obj} {i : Nat} {l : Array Bool} (h : l.getD i false = true) : dz W o i l w' ↔ ∃ d, w' = (W.drewN d).alloc o := by unfold dz; rw [h]; simp
theorem dz_wz {W w' : World} {o : Obj} {i : Nat} {l : Array Bool} (h : dz W o i l w') : ∃ d, w' = wz W o d := by
  unfold dz at h
  split at h
  · obtain ⟨d, rfl⟩ := h; exact ⟨2 * d + 1, (wz_1 _ _ _).symm⟩
  · obtain ⟨d, rfl⟩ := h; exact ⟨2 * d, (wz_0 _ _ _).symm⟩
theorem dz_set {W w' : World} {o : Obj} {i k : Nat} {l : Array Bool} (h : k ≠ i) : dz W o i (l.setIfInBounds k true) w' ↔ dz W o i l w' := by unfold dz; rw [getD_set_ne false h]

end Go.Proofs.YtfkljlncnfeklaaGreatDoor

/-! search.meet. -/
namespace Go.Proofs.YtfkljlncnfeklaaGreatDoor
open Go.RowKit Go.Shelf
set_option linter.unusedVariables false
set_option linter.unusedSimpArgs false
attribute [local go_sem] Oper.semAt_some stIn stAt stUpon

theorem ownFrom_mts {β : Type} {w2 w : World} {mb1 mb2 ab sb n H : Nat} {a b : Rx} {ag : List (List Nat)} {vf : Value} {gq oq : Nat} {f : β → List (Nat × Nat) × List (List Nat)} {B : Nat} (hB : w.heap.size + 1 + 1 < B) :
    OwnFrom B (fun (s : β) W => MtS w2 w W mb1 mb2 ab sb n H a b ag vf gq oq (f s).1 (f s).2) := fun s X Y row hs hg hr => hs.kept hg (fun r e => by
  obtain ⟨h1, o, h2, h3⟩ := hr r e
  exact ⟨by omega, o, h2, not_cells h3 _⟩)
theorem ownFrom_bx {β : Type} {B k T : Nat} (cs : β → Array Value) : OwnFrom B (fun (s : β) W => Bx W k (cs s) T) := fun s X Y row hs hg hr =>
  (hg.block k hs.lt (fun e => by
    obtain ⟨_, o, h2, h3⟩ := hr k e.symm
    rw [show X.heap[k]? = _ from hs] at h2
    cases h2
    cases h3)).trans hs
theorem Tryz.infoPr : (Tryz.prog.info? 148).map (fun i => (i.zero, i.size, i.bytes)) = some (some (.agg #[.int .i64 0, .int .i64 0, .int .i64 0]), 3, 24) := by kernel_rfl
set_option maxRecDepth 100000 in
set_option maxHeartbeats 4000000 in
theorem meet_any (w2 w : World) (mb1 mb2 ab sb n H B1 B2 gp op gq oq : Nat) (a b : Rx) (vr1 vf1 vr2 vf2 vf : Value) (fl1 fl2 : List (List Nat)) (f1 la1 f2 la2 : List Nat) (ag sn : List (List Nat)) (pl ql : List Nat) (l : List (Nat × Nat)) (v : Value)
    (hS : Hid (SrB w2 w mb1 mb2 ab sb n ag sn vf)) (hM1 : Hid (McM w2 B1 mb1 a vr1 vf1 fl1 f1 la1)) (hM2 : Hid (McM w2 B2 mb2 b vr2 vf2 fl2 f2 la2)) (hn : Hid (n = a.pl)) (hag : AgW a b ag) (hsn : AllW sn)
    (hp : Hid (Pl w2 gp op pl)) (hq : Hid (Pl w2 gq oq ql)) (sp : gp < w2.heap.size) (sq : gq < w2.heap.size) (hwp : W4 pl) (hwq : W4 ql) (hlt : ∀ p ∈ els pl, p < n)
    (hrow : Hid (w.ownsRow H 148 3 v l.length (prC a b l))) (hH : w2.heap.size < H) (hHw : H ≤ w.heap.size) (hcn : l.length ≤ cnS sn) (ht : Hid (Tz w2)) (hts : 2 < w2.heap.size) :
    CallsIn Fence.wide 9 Tryz.prog 68 #[.pointer (some ⟨w2.heap.size, 0, none⟩), v, .pointer (some ⟨gp, op, none⟩), .pointer (some ⟨gq, oq, none⟩)] w fun e w' => ∃ v', e = .returned v' ∧ SrB w2 w' mb1 mb2 ab sb n ag (mtW ag ql (l, sn) (els pl)).2 vf ∧ w'.ownsRow H 148 3 v' (mtW ag ql (l, sn) (els pl)).1.length (prC a b (mtW ag ql (l, sn) (els pl)).1) ∧ Mw H sb w w' := by
  have h7 : Fence.wide.fn 68 := trivial
  obtain ⟨i0, hif, hzf, hzs, hzb⟩ := info_parts Tryz.infoPr
  refine callsIn_of_wp_marks Tryz.func68 rfl h7 ?_ rfl
  simp only [Tryz.ntmps68, List.size_toArray, List.length_cons, List.length_nil, Nat.reduceAdd, Nat.reduceSub, Array.replicate_succ, Array.replicate_zero, List.push_toArray, List.append_toArray, List.nil_append, List.cons_append]
  obtain ⟨A, cv, rfl, _, _⟩ := own_form hrow.out
  gi_wp2_with (refine ⟨trivial, ?_⟩; gi_at_call 80; refine (all_any _ _ _).mono ?_; rintro e w' ⟨rfl, rfl⟩)
  have ST := fun W e => mts_start (gq := gq) (oq := oq) (gp := gp) (op := op) hS.out hrow.out hH hHw W e
  generalize hW0 : World.alloc (World.alloc (World.alloc (World.alloc w _) _) _) _ = W0
  obtain ⟨hMS, hBp, hz0⟩ := ST _ hW0
  clear hW0 ST
  have hnw : w2.heap.size < w.heap.size := hMS.out.h2
  refine wpIn_rangeFunc_ownH rfl (by decide) (gf := 96) (lb := #[.pointer (some ⟨w.heap.size + 1 + 1 + 1, 0, none⟩)]) rfl trivial (enters_of Tryz.func96 (by kernel_rfl) rfl)
    (all_stops 8 (by decide) (w.heap.size + 1 + 1 + 1) gp op pl hwp W0 (by omega) (by omega) (by omega) (hBp.out.cell 0) (lid' (hp.out.block (hMS.out.sr.bel.block gp sp))) (Tz.below ht hMS.out.sr.bel hts)) (fun h k => KpS.trans h k) (KpS.lay (by omega) (by omega)) (Below.refl _ _) (fun _ => rfl)
    (fun pre W => MtS w2 w W mb1 mb2 ab sb n H a b ag vf gq oq (mtW ag ql (l, sn) (vals pre)).1 (mtW ag ql (l, sn) (vals pre)).2)
    (fun _ _ _ => False)
    (ownFrom_mts (by omega)) (fun _ _ _ _ _ hs _ _ => hs) hMS.out
    (fun x a' W => ∃ Bi, w.heap.size + 1 + 1 < Bi ∧ Bx W Bi #[.int .i64 ((x.1 : Nat) : Int)] 3 ∧ a' = { tmps := #[.pointer (some ⟨w2.heap.size, 0, none⟩), .slice A l.length cv, .pointer (some ⟨gp, op, none⟩), .pointer (some ⟨gq, oq, none⟩), .pointer (some ⟨w.heap.size, 0, none⟩), .pointer (some ⟨w.heap.size + 1, 0, none⟩), undef, .pointer (some ⟨w.heap.size + 1 + 1, 0, none⟩), .slice none 0 0, .pointer (some ⟨Bi, 0, none⟩), undef, undef, .pointer (some ⟨gp, op, none⟩), .func (.func 96) #[] #[.pointer (some ⟨w.heap.size + 1 + 1 + 1, 0, none⟩)], .int .i64 ((x.1 : Nat) : Int), undef, undef, undef, undef, undef, undef, undef, undef, undef, undef, undef, undef, undef, undef, undef, undef, undef, undef, undef, undef, undef, undef, undef, undef, undef, undef, undef, undef, undef, undef, undef, undef, undef, undef, undef, undef, undef, undef, undef, undef, undef, undef, undef, undef, undef, undef, undef, undef, undef, undef, undef, undef, undef, undef, undef, undef], defers := [] })
    (fun x a' _ X Y row hs hg hr => by
      obtain ⟨Bi, e1, e2, e3⟩ := hs
      exact ⟨Bi, e1, ownFrom_bx (β := Unit) (fun _ => #[.int .i64 ((x.1 : Nat) : Int)]) () X Y row e2 hg hr, e3⟩)
    ?assign ?body ?done ?stop
  case assign =>
    intro l0 pre x W K hM hK
    gi_wp2
    exact hK _ _ ((KeepsOthers.alloc _ _).from _) ⟨(Below.refl _ W).alloc (Nat.le_refl _) _ |>.block gp (by have := hM.sz; omega), (Below.refl _ W).alloc (Nat.le_refl _) _ |>.block _ (by have := hM.sz; omega)⟩ (hM.alloc _) ⟨W.heap.size, hM.sz, bx_new rfl _ _, rfl⟩
  case body =>
    rintro l0 pre x a' W hl0 ⟨r0, hr0⟩ hM ⟨Bi, hBi, bI, rfl⟩ _
    obtain ⟨x, hxm⟩ := x
    have hx : x < n := hlt x hxm
    have hnext : mtW ag ql (l, sn) (vals (pre ++ [⟨x, hxm⟩])) = mt1 ag ql (mtW ag ql (l, sn) (vals pre)) x := by rw [vals_snoc]; unfold mtW; rw [List.foldl_append]; rfl
    have hin : ∀ i ∈ vals pre, i < (l, sn).2.length := fun i hi => by
      obtain ⟨y, _, rfl⟩ := List.mem_map.1 hi
      rw [show (l, sn).2.length = n from hS.out.ls]
      exact hlt _ y.2
    have hall := mtW_all hwq hag.w4 (vals pre) (l, sn) hsn hin
    have hlen : (mtW ag ql (l, sn) (vals pre)).2.length = n := by rw [mtW_len]; exact hS.out.ls
    have hcnt : (mtW ag ql (l, sn) (vals pre)).1.length ≤ cnS (mtW ag ql (l, sn) (vals pre)).2 := by
      obtain ⟨nw, e1, e2, _⟩ := mtW_ok hwq hag.w4 (vals pre) (l, sn) hsn hin
      rw [e1, e2, List.length_append]
      show l.length + nw.length ≤ cnS sn + nw.length
      omega
    have hHn := Lib.hid hnext
    clear hnext hin
    generalize mtW ag ql (l, sn) (vals pre) = s at *
    have hpl : n ≤ 256 := by rw [hn.out]; exact hM1.out.mw.pl
    have hbd : s.1.length + (els (frW ag ql s.2 x)).length ≤ 65536 := by
      obtain ⟨nw, e1, e2, _⟩ := mtW_ok hwq hag.w4 [x] s hall (by simp; omega)
      have e3 := cnS_le (mtW ag ql s [x]).2
      rw [mtW_len, hlen] at e3
      have e4 : (mtW ag ql s [x]).1 = s.1 ++ (els (frW ag ql s.2 x)).map fun j => (x, j) := rfl
      rw [e4] at e1
      have e5 := congrArg List.length (List.append_cancel_left e1)
      rw [List.length_map] at e5
      omega
    have hqW := (hq.out.block (hM.sr.bel.block gq sq))
    have q0 : W.cell? ⟨gq, oq, none⟩ = some (.int .u64 ((gW ql 0 : Nat) : Int)) := (hqW 0 (by decide)).1
    have q1 : W.cell? ⟨gq, oq + 1, none⟩ = some (.int .u64 ((gW ql 1 : Nat) : Int)) := (hqW 1 (by decide)).1
    have q2 : W.cell? ⟨gq, oq + 2, none⟩ = some (.int .u64 ((gW ql 2 : Nat) : Int)) := (hqW 2 (by decide)).1
    have q3 : W.cell? ⟨gq, oq + 3, none⟩ = some (.int .u64 ((gW ql 3 : Nat) : Int)) := (hqW 3 (by decide)).1
    have y2 : W.cell? ⟨w.heap.size + 1 + 1, 0, none⟩ = some (.pointer (some ⟨gq, oq, none⟩)) := by simpa using hM.x2.cell 0
    have hli := hBi
    have hF0 : Hid (FrS w2 w W (W.alloc (.cells (w4A ql) 95)) mb1 mb2 ab sb n H a b ag vf gq oq W0.heap.size Bi W.heap.size x ql s.1 s.2) := Lib.hid ⟨hM.alloc _, bx_al bI _, bx_new rfl _ _, (KeepsOthers.alloc _ _).from _, hli, hM.sz⟩
    unfold w4A at hF0
    clear hqW
    gi_wp2
    clear q0 q1 q2 q3 y2
    generalize hBf : W.heap.size = Bf at *
    generalize World.alloc W _ = W1 at *
    have hmx : Tryz.prog.follows .mixedOrders = true := by kernel_rfl
    have hag4 : W4 (ag.getD x noW) := hag.w4 x
    have hsn4 : W4 (s.2.getD x noW) := hall x (by omega)
    have hi4 := int_w4 hwq hag4
    have hf4 := sub_w4 hi4 hsn4
    have i1 : (0 : Int) ≤ (x : Int) := by omega
    have i2 : (x : Int) < (n : Int) := by omega
    have hab := hF0.out.ms.ha
    have hsb := hF0.out.ms.hs
    have hlf := hF0.out.lf
    have nab : ab ≠ Bf := by omega
    have nsb : sb ≠ Bf := by omega
    have y0 : W1.cell? ⟨w.heap.size, 0, none⟩ = some (.pointer (some ⟨w2.heap.size, 0, none⟩)) := by simpa using hF0.out.ms.x0.cell 0
    have y5 : W1.cell? ⟨w2.heap.size, 2, none⟩ = some (.slice (some ⟨ab, 0, none⟩) n n) := by simpa using hF0.out.ms.sr.bx.cell 2
    have yi : W1.cell? ⟨Bi, 0, none⟩ = some (.int .i64 (x : Int)) := by simpa using hF0.out.bi.cell 0
    have GI : Hid (∀ d, CallsIn Fence.wide 6 Tryz.prog 85 #[.pointer (some ⟨Bf, 0, none⟩), .pointer (some ⟨ab, x * 4, none⟩)] (W1.drewN d) (fun e w' => e = .returned (.tuple #[]) ∧ Hid (FrS w2 w W w' mb1 mb2 ab sb n H a b ag vf gq oq W0.heap.size Bi Bf x (intW ql (ag.getD x noW)) s.1 s.2))) := lid' (fun d =>
      (callsIn_wide.2 (intersect_any Bf 0 ab (x * 4) ql (ag.getD x noW) (W1.drewN d) hwq hag4 (lid' (pl_f4A hF0.out.bf)) (lid' (hF0.out.ms.sr.oa.pl (by rw [hF0.out.ms.sr.la]; exact hx))) nab)).mono (fun e w' h => by
        obtain ⟨h1, d', rfl⟩ := h
        exact ⟨h1, lid' ((hF0.out.drewN d).step _ d')⟩))
    clear hF0
    refine region_mix 6 12 (fun w' => ∃ d, w' = W1.drewN d) (fun _ w' => ∃ d, w' = W1.drewN d) (fun _ => false) (by decide) hmx (by kernel_rfl) (by kernel_rfl) (by kernel_rfl) (by kernel_rfl) (fun _ _ h => h) (fun _ _ _ _ => Iff.rfl) (fun _ _ _ _ _ h => h) ⟨1, rfl⟩ ?_
    simp only [List.take_succ_cons, List.take_zero]
    repeat (refine wpSt_step (by quiet_asked_in) (fun K hK => ?_); go_simp; refine hK _ ?_; clear hK K)
    refine wpSt_nil ?_
    refine mix_rest (i := 6) (by kernel_rfl) (by decide) rfl ?_
    rintro w' ⟨d, rfl⟩
    refine wpOpIn_step rfl (fun K hK => ?_)
    go_simp
    refine ⟨trivial, ?_⟩
    refine (GI.out d).mono ?_
    rintro e W2 ⟨rfl, hF1⟩
    refine hK _ _ ?_
    clear hK K
    refine wpAnyIn_done (by kernel_rfl) ?_ _
    clear GI y0 y5 yi
    clear d
    gi_wp2
    have y0 : W2.cell? ⟨w.heap.size, 0, none⟩ = some (.pointer (some ⟨w2.heap.size, 0, none⟩)) := by simpa using hF1.out.ms.x0.cell 0
    have y5 : W2.cell? ⟨w2.heap.size, 3, none⟩ = some (.slice (some ⟨sb, 0, none⟩) n n) := by simpa using hF1.out.ms.sr.bx.cell 3
    have yi : W2.cell? ⟨Bi, 0, none⟩ = some (.int .i64 (x : Int)) := by simpa using hF1.out.bi.cell 0
    have GI : Hid (∀ d, CallsIn Fence.wide 6 Tryz.prog 86 #[.pointer (some ⟨Bf, 0, none⟩), .pointer (some ⟨sb, x * 4, none⟩)] (W2.drewN d) (fun e w' => e = .returned (.tuple #[]) ∧ Hid (FrS w2 w W w' mb1 mb2 ab sb n H a b ag vf gq oq W0.heap.size Bi Bf x (subW (intW ql (ag.getD x noW)) (s.2.getD x noW)) s.1 s.2))) := lid' (fun d =>
      (callsIn_wide.2 (subtract_any Bf 0 sb (x * 4) (intW ql (ag.getD x noW)) (s.2.getD x noW) (W2.drewN d) hi4 hsn4 (lid' (pl_f4A hF1.out.bf)) (lid' (hF1.out.ms.sr.os.pl (by rw [hF1.out.ms.sr.ls]; exact hx))) nsb)).mono (fun e w' h => by
        obtain ⟨h1, d', rfl⟩ := h
        exact ⟨h1, lid' ((hF1.out.drewN d).step _ d')⟩))
    clear hF1
    refine region_mix 6 12 (fun w' => ∃ d, w' = W2.drewN d) (fun _ w' => ∃ d, w' = W2.drewN d) (fun _ => false) (by decide) hmx (by kernel_rfl) (by kernel_rfl) (by kernel_rfl) (by kernel_rfl) (fun _ _ h => h) (fun _ _ _ _ => Iff.rfl) (fun _ _ _ _ _ h => h) ⟨1, rfl⟩ ?_
    simp only [List.take_succ_cons, List.take_zero]
    repeat (refine wpSt_step (by quiet_asked_in) (fun K hK => ?_); go_simp; refine hK _ ?_; clear hK K)
    refine wpSt_nil ?_
    refine mix_rest (i := 6) (by kernel_rfl) (by decide) rfl ?_
    rintro w' ⟨d, rfl⟩
    refine wpOpIn_step rfl (fun K hK => ?_)
    go_simp
    refine ⟨trivial, ?_⟩
    refine (GI.out d).mono ?_
    rintro e W3 ⟨rfl, hF2⟩
    refine hK _ _ ?_
    clear hK K
    refine wpAnyIn_done (by kernel_rfl) ?_ _
    clear GI y0 y5 yi
    clear d
    gi_wp2
    have y0 : W3.cell? ⟨w.heap.size, 0, none⟩ = some (.pointer (some ⟨w2.heap.size, 0, none⟩)) := by simpa using hF2.out.ms.x0.cell 0
    have y5 : W3.cell? ⟨w2.heap.size, 3, none⟩ = some (.slice (some ⟨sb, 0, none⟩) n n) := by simpa using hF2.out.ms.sr.bx.cell 3
    have yi : W3.cell? ⟨Bi, 0, none⟩ = some (.int .i64 (x : Int)) := by simpa using hF2.out.bi.cell 0
    have GI : Hid (∀ d, CallsIn Fence.wide 6 Tryz.prog 81 #[.pointer (some ⟨sb, x * 4, none⟩), .pointer (some ⟨Bf, 0, none⟩)] (W3.drewN d) (fun e w' => e = .returned (.tuple #[]) ∧ Hid (FrS w2 w W w' mb1 mb2 ab sb n H a b ag vf gq oq W0.heap.size Bi Bf x (subW (intW ql (ag.getD x noW)) (s.2.getD x noW)) s.1 (s.2.set x (uniW (s.2.getD x noW) (subW (intW ql (ag.getD x noW)) (s.2.getD x noW))))))) := lid' (fun d =>
      (callsIn_wide.2 (unite_any sb (x * 4) Bf 0 (s.2.getD x noW) (subW (intW ql (ag.getD x noW)) (s.2.getD x noW)) (W3.drewN d) hsn4 hf4 (lid' (hF2.out.ms.sr.os.pl (by rw [hF2.out.ms.sr.ls]; exact hx))) (lid' (pl_f4A hF2.out.bf)) (fun e => nsb e.symm))).mono (fun e w' h => by
        obtain ⟨h1, d', rfl⟩ := h
        exact ⟨h1, lid' ((hF2.out.drewN d).seen hx _ d')⟩))
    clear hF2
    refine region_mix 6 12 (fun w' => ∃ d, w' = W3.drewN d) (fun _ w' => ∃ d, w' = W3.drewN d) (fun _ => false) (by decide) hmx (by kernel_rfl) (by kernel_rfl) (by kernel_rfl) (by kernel_rfl) (fun _ _ h => h) (fun _ _ _ _ => Iff.rfl) (fun _ _ _ _ _ h => h) ⟨1, rfl⟩ ?_
    simp only [List.take_succ_cons, List.take_zero]
    repeat (refine wpSt_step (by quiet_asked_in) (fun K hK => ?_); go_simp; refine hK _ ?_; clear hK K)
    refine wpSt_nil ?_
    refine mix_rest (i := 6) (by kernel_rfl) (by decide) rfl ?_
    rintro w' ⟨d, rfl⟩
    refine wpOpIn_step rfl (fun K hK => ?_)
    go_simp
    refine ⟨trivial, ?_⟩
    refine (GI.out d).mono ?_
    rintro e W4 ⟨rfl, hF3⟩
    refine hK _ _ ?_
    clear hK K
    refine wpAnyIn_done (by kernel_rfl) ?_ _
    clear GI y0 y5 yi
    clear d
    gi_wp2
    -- REGIONS END
    gi_wp2_with (refine ⟨trivial, ?_⟩; gi_at_call 80; refine (CallsIn.inRound l0 (all_any _ _ _)).mono ?_; rintro e w' ⟨rfl, rfl⟩)
    have hF4 := lid' (hF3.out.alloc (.cells #[.pointer (some ⟨Bf, 0, none⟩)] 107))
    have hBn : Hid (Bx (W4.alloc (.cells #[.pointer (some ⟨Bf, 0, none⟩)] 107)) W4.heap.size #[.pointer (some ⟨Bf, 0, none⟩)] 107) := lid' (bx_new rfl _ _)
    clear hF3
    generalize hBn' : W4.heap.size = Bn at *
    generalize World.alloc W4 _ = W5 at *
    have hr' := hF4.out.kf.same l0 _ hl0 hr0 rfl
    have hsz5 := hBn.out.lt
    have hfr : subW (intW ql (ag.getD x noW)) (s.2.getD x noW) = frW ag ql s.2 x := rfl
    rw [hfr] at hF4 hf4
    clear hfr
    have hWs : W.heap.size ≤ W5.heap.size := hF4.out.kf.size
    have hw1 := hF4.out.ms.mw.size
    have hw2 := hF4.out.ms.hH
    have hTz5 := Tz.below ht hF4.out.ms.sr.bel hts
    refine wpIn_rangeFunc_ownN (l₀ := l0) (r₀ := r0) rfl hr' (by decide) (gf := 96) (lb := #[.pointer (some ⟨Bn, 0, none⟩)]) rfl trivial (enters_of Tryz.func96 (by kernel_rfl) rfl)
      ((all_stops 6 (by decide) Bn Bf 0 (frW ag ql s.2 x) hf4 W5 hsz5 hF4.out.bf.lt (by omega) (hBn.out.cell 0) (lid' (pl_f4A hF4.out.bf)) hTz5).inRound l0) (fun h k => KpS.trans h k) (KpS.lay hF4.out.bf.lt (by omega)) (Below.refl _ _) (fun _ => rfl)
      (fun pre' W' => FrS w2 w W W' mb1 mb2 ab sb n H a b ag vf gq oq W0.heap.size Bi Bf x (frW ag ql s.2 x) (s.1 ++ (vals pre').map fun j => (x, j)) (s.2.set x (uniW (s.2.getD x noW) (frW ag ql s.2 x))))
      (fun _ _ _ => False)
      (ownFrom_frs (by omega) hWs) (fun _ _ _ _ _ hs _ _ => hs) (by show FrS _ _ _ _ _ _ _ _ _ _ _ _ _ _ _ _ _ _ _ _ _ (s.1 ++ []) _; rw [List.append_nil]; exact hF4.out)
      (fun y a'' _ => a'' = { tmps := #[.pointer (some ⟨w2.heap.size, 0, none⟩), .slice A l.length cv, .pointer (some ⟨gp, op, none⟩), .pointer (some ⟨gq, oq, none⟩), .pointer (some ⟨w.heap.size, 0, none⟩), .pointer (some ⟨w.heap.size + 1, 0, none⟩), undef, .pointer (some ⟨w.heap.size + 1 + 1, 0, none⟩), .slice none 0 0, .pointer (some ⟨Bi, 0, none⟩), .pointer (some ⟨Bf, 0, none⟩), .int .i64 ((y.1 : Nat) : Int), .pointer (some ⟨gp, op, none⟩), .func (.func 96) #[] #[.pointer (some ⟨w.heap.size + 1 + 1 + 1, 0, none⟩)], .int .i64 (x : Int), .pointer (some ⟨gq, oq, none⟩), .pointer (some ⟨gq, oq, none⟩), .agg #[.int .u64 ((gW ql 0 : Nat) : Int), .int .u64 ((gW ql 1 : Nat) : Int), .int .u64 ((gW ql 2 : Nat) : Int), .int .u64 ((gW ql 3 : Nat) : Int)], .pointer (some ⟨w2.heap.size, 0, none⟩), .pointer (some ⟨w2.heap.size, 0, none⟩), .pointer (some ⟨w2.heap.size, 2, none⟩), .slice (some ⟨ab, 0, none⟩) n n, .int .i64 (x : Int), .pointer (some ⟨ab, x * 4, none⟩), .tuple #[], .pointer (some ⟨w2.heap.size, 0, none⟩), .pointer (some ⟨w2.heap.size, 0, none⟩), .pointer (some ⟨w2.heap.size, 3, none⟩), .slice (some ⟨sb, 0, none⟩) n n, .int .i64 (x : Int), .pointer (some ⟨sb, x * 4, none⟩), .tuple #[], .pointer (some ⟨w2.heap.size, 0, none⟩), .pointer (some ⟨w2.heap.size, 0, none⟩), .pointer (some ⟨w2.heap.size, 3, none⟩), .slice (some ⟨sb, 0, none⟩) n n, .int .i64 (x : Int), .pointer (some ⟨sb, x * 4, none⟩), .tuple #[], .func (.func 96) #[] #[.pointer (some ⟨Bn, 0, none⟩)], .int .i64 ((y.1 : Nat) : Int), undef, undef, undef, undef, undef, undef, undef, undef, undef, undef, undef, undef, undef, undef, undef, undef, undef, undef, undef, undef, undef, undef, undef, undef, undef, undef, undef, undef, undef, undef], defers := [] }) (fun _ _ _ _ _ _ hs _ _ => hs) ?assign2 ?body2 ?done2 ?stop2
    case assign2 =>
      intro l2 pre' y W' K hI hK
      gi_wp2
      exact hK _ _ (KeepsFrom.refl _ _) (KpS.refl _ _) hI rfl
    case body2 =>
      rintro l2 pre' y a'' W' _ _ hI rfl hpl2
      obtain ⟨y, hym⟩ := y
      have hlenP : (s.1 ++ (vals pre').map fun j => (x, j)).length < 65536 := by
        rw [List.length_append, List.length_map, vals_len]
        omega
      have hnx : Hid (s.1 ++ (vals (pre' ++ [⟨y, hym⟩])).map (fun j => (x, j)) = (s.1 ++ (vals pre').map fun j => (x, j)) ++ [(x, y)]) := lid' (by rw [vals_snoc, List.map_append, ← List.append_assoc]; rfl)
      have hfrh := (els_mem hf4).1 hym
      have hyP : agP a b (x, y) = true := by
        have h2 := hfrh.2
        rw [fr_has hfrh.1] at h2
        simp only [Bool.and_eq_true] at h2
        rw [← hag.has x y (by rw [← hn.out]; exact hx) hfrh.1]
        exact h2.1.2
      have hyb : y < b.pl := (agP_lt hyP).2
      have hxa : x < a.pl := (agP_lt hyP).1
      have hle : ((leN a b (x, y) : Nat) : Int) = (if (rgA a x).1 < (rgA b y).1 then (((rgA b y).1 : Nat) : Int) else (((rgA a x).1 : Nat) : Int)) := by show ((max (rgA a x).1 (rgA b y).1 : Nat) : Int) = _; split <;> omega
      have HLE := lid' hle
      clear hle hfrh hyP
      generalize (s.1 ++ (vals pre').map fun j => (x, j)) = lp at *
      dsimp only
      obtain ⟨v, hv1, hv2⟩ := hI.ms.x1
      obtain ⟨A', cv', rfl, _, _⟩ := own_form hv2
      have hbel := hI.ms.sr.bel
      have Ma := hM1.out.below hbel
      have Mb := hM2.out.below hbel
      obtain ⟨A1, cr1, ev1, _, _⟩ := own_form hM1.out.ma.rf
      subst ev1
      obtain ⟨A2, cr2, ev2, _, _⟩ := own_form hM2.out.ma.rf
      subst ev2
      rw [rgL_len] at Ma Mb
      obtain ⟨g1, rfl, hg1, _, c1, _⟩ := Ma.node hxa
      obtain ⟨g2, rfl, hg2, _, c2, _⟩ := Mb.node hyb
      have hbW := hbel.size
      have hms := hI.ms.sz
      have hO : ∃ O : Obj, O = .cells #[.int .i64 (x : Int), .int .i64 (y : Int), .int .i64 (if (rgA a x).1 < (rgA b y).1 then (((rgA b y).1 : Nat) : Int) else (((rgA a x).1 : Nat) : Int))] 148 := ⟨_, rfl⟩
      obtain ⟨O, HO'⟩ := hO
      have HO := lid' HO'
      clear HO'
      have z5 := wz_cell (W := W') (k := w.heap.size + 1) hv1.lt 0 (by simpa using hv1.cell 0 : W'.cell? ⟨w.heap.size + 1, 0, none⟩ = some (.slice A' lp.length cv')) O
      have zi := wz_cell (W := W') (k := Bi) hI.bi.lt 0 (by simpa using hI.bi.cell 0 : W'.cell? ⟨Bi, 0, none⟩ = some (.int .i64 (x : Int))) O
      have z0 := wz_cell (W := W') (k := w.heap.size) hI.ms.x0.lt 0 (by simpa using hI.ms.x0.cell 0 : W'.cell? ⟨w.heap.size, 0, none⟩ = some (.pointer (some ⟨w2.heap.size, 0, none⟩))) O
      have zp := wz_cell (W := W') (k := w2.heap.size) hI.ms.sr.lt 0 (by simpa using hI.ms.sr.bx.cell 0 : W'.cell? ⟨w2.heap.size, 0, none⟩ = some (.pointer (some ⟨mb1, 0, none⟩))) O
      have zq := wz_cell (W := W') (k := w2.heap.size) hI.ms.sr.lt 1 (by simpa using hI.ms.sr.bx.cell 1 : W'.cell? ⟨w2.heap.size, 1, none⟩ = some (.pointer (some ⟨mb2, 0, none⟩))) O
      have zm := wz_cell (W := W') (k := mb1) (lt_of_cell Ma.ma.cf) 0 Ma.ma.cf O
      have zn := wz_cell (W := W') (k := mb2) (lt_of_cell Mb.ma.cf) 0 Mb.ma.cf O
      have zc := wz_cell (W := W') hg1 (x * 5 + 1) c1 O
      have zd := wz_cell (W := W') hg2 (y * 5 + 1) c2 O
      clear c1 c2 Ma Mb hbel
      have j1 : (0 : Int) ≤ (x : Int) := by omega
      have j2 : (x : Int) < (a.pl : Int) := by omega
      have j3 : (0 : Int) ≤ (y : Int) := by omega
      have j4 : (y : Int) < (b.pl : Int) := by omega
      generalize (rgA a x).1 = lo1 at *
      generalize (rgA b y).1 = lo2 at *
      gi_wp2
      refine region_mix 27 20 (fun w' => ∃ d, w' = wz W' O d) (dz W' O 27) (fun i => i == 27) (by decide) hmx (by kernel_rfl) (by kernel_rfl) (by kernel_rfl) (by kernel_rfl) (fun _ _ h => dz_wz h) (fun _ _ _ hi => dz_set (by omega)) (fun _ _ _ _ _ h => h) ((dz_no (by kernel_rfl)).2 ⟨1, rfl⟩) ?_
      simp only [List.take_succ_cons, List.take_zero]
      repeat (refine wpSt_step (by quiet_asked_in) (fun K hK => ?_); go_simp; refine hK _ ?_; clear hK K)
      refine wpSt_nil ?_
      clear z5 zi z0 zp zq zm zn zc zd
      refine mix_early (i := 27) (by kernel_rfl) (by decide) rfl ?_
      intro w' hD
      obtain ⟨d, rfl⟩ := (dz_no (by kernel_rfl)).1 hD
      refine wpOpIn_step rfl (fun K hK => ?_)
      go_simp
      rw [← HO.out]
      refine hK _ _ ⟨(dz_yes (by kernel_rfl)).2 ⟨d, rfl⟩, ?_⟩
      clear hK K hD
      refine mix_rest (i := 28) (by kernel_rfl) (by decide) rfl ?_
      intro w' hD
      obtain ⟨d2, rfl⟩ := (dz_yes (by kernel_rfl)).1 hD
      clear hD
      have hbn : Below W'.heap.size W' ((W'.drewN d2).alloc O) := (below_drewN (Below.refl _ W') d2).alloc (Nat.le_refl _) _
      have hv3 : ((W'.drewN d2).alloc O).ownsRow H 148 3 (.slice A' lp.length cv') lp.length (prC a b lp) := own_block hv2 (fun k hk => hbn.block k (World.ownsRow.lt hv2 k hk).2)
      have hnew : Bx ((W'.drewN d2).alloc O) W'.heap.size #[.int .i64 (x : Int), .int .i64 (y : Int), .int .i64 (leN a b (x, y) : Int)] 148 := by rw [HLE.out, HO.out]; exact bx_new rfl _ _
      refine opIn_append rfl rfl (.tmp 41) (.tmp 68) 120 rfl H 148 i0 _ 3 24 Tryz.underlying120 hif hzf hzs hzb rfl (by decide) (.slice A' lp.length cv') lp.length (prC a b lp) rfl hv3 _ _ _ (prC a b [(x, y)]) rfl rfl (World.news_of_block hnew) (by simp [prC, Value.oneCell']) (by decide) (by simp only [maxLen]; omega) (by omega) (by simp; omega) _ rfl ?_
      intro g2 c2 W6 hown hgrow hat hlt2
      have hP := lid' (hI.push hv1 hv2 (x, y) hown hgrow)
      have hKO := lid' (push_keeps (o := O) (d := d2) hv2 hgrow ⟨w.heap.size + 1, 0, none⟩ (.slice (some ⟨g2, 0, none⟩) (lp.length + 1) c2))
      have x1W : Bx W6 (w.heap.size + 1) #[.slice A' lp.length cv'] 120 := (hgrow.block _ (Nat.lt_of_lt_of_le hv1.lt hbn.size) (fun e => own_ne hv2 hv1 (by decide) e.symm)).trans ((hbn.block _ hv1.lt).trans hv1)
      have z1 := x1W.cell 0
      have z2 : W6.frozen? ⟨w.heap.size + 1, 0, none⟩ = false := frozen_of_row _ _ 0 _ _ x1W
      simp at z1
      have hKps := lid' (hI.kps hP.out hts)
      clear hown hgrow hat hlt2 x1W hnew hv3 hbn
      refine wpAnyIn_ready (rs := [29]) (by kernel_rfl) (by simp) ?_
      refine AllReadyIn.cons rfl (fun K hK => ?_) AllReadyIn.nil
      go_simp
      refine hK _ _ ?_
      clear hK K
      refine wpAnyIn_done (by kernel_rfl) ?_ _
      exact ⟨hKO.out.from _, hKps.out, by dsimp only; rw [hnx.out]; exact hP.out⟩
    case done2 =>
      rintro ys W' hys hI
      rw [hys] at hI
      have hP := lid' (hM.kps hI.ms sp hts)
      gi_wp2
      exact ⟨hI.kf, hP.out, by dsimp only; rw [hHn.out]; exact hI.ms⟩
    case stop2 =>
      rintro c pre' W' _ h
      exact h.elim
  case done =>
    rintro D ys W hD hys hM hK
    rw [hys] at hM
    have hM2 := lid' (hM.kept (grownBy_putObj' W D (.deferred none)) (fun r e => by cases e; exact ⟨by omega, _, hK, not_cells rfl _⟩))
    obtain ⟨s, hse⟩ : ∃ s, mtW ag ql (l, sn) (els pl) = s := ⟨_, rfl⟩
    rw [hse] at hM hM2
    have HSE := lid' hse
    clear hse
    obtain ⟨v, hv1, hv2⟩ := hM.x1
    obtain ⟨A', cv', rfl, _, _⟩ := own_form hv2
    have hv3 := lid' (hv2.kept (grownBy_putObj' W D (.deferred none)) (.inr (own_not hv2 hK (not_cells rfl _))))
    have z1 := hv1.cell 0
    simp at z1
    clear hv1 hv2
    gi_wp2
    refine ⟨by simp, .inl ⟨_, _, rfl, run_takeDeferred hK, ?_⟩⟩
    refine ⟨_, results_tmp rfl _ _ _, .slice A' s.1.length cv', rfl, ?_⟩
    rw [HSE.out]
    exact ⟨hM2.out.sr, hv3.out, hM2.out.mw⟩
  case stop =>
    rintro D c pre W _ _ h _
    exact h.elim

end Go.Proofs.YtfkljlncnfeklaaGreatDoor
