/-
  Plain mathematics and contracts of package diagram, several texts in one: PEO, PRt, PFc, PLf, PRo, PSp.
-/
import Derived.Test.YtignkplogkaigaaDoorFo
import Derived.Test.YtignkplogkaigaaDoorFu
import Derived.Test.YtignkplogkaigaaDoorFh
namespace Go.Proofs.YtignkplogkaigaaDoor
set_option linter.unusedVariables false
set_option linter.unusedSimpArgs false
theorem app_rest (op : Int) : ∀ n s s', app op n s = .ok s' → s'.rest = s.rest
  | 0, s, s', e => by injection e with e; subst e; rfl
  | n + 1, s, s', e => by
    unfold app at e
    simp only at e
    split at e
    · injection e with e; subst e; rfl
    · rcases h : add (s.wait.getD n 0) 0 s with s1 | _ | _
      · rw [h] at e
        have h2 : s1.rest = s.rest := by
          unfold add at h
          simp only at h
          repeat' (split at h)
          all_goals first | (injection h with h; subst h; rfl) | (cases h)
        exact (app_rest op n _ s' e).trans h2
      · rw [h] at e; cases e
      · rw [h] at e; cases e
theorem wrd_rest {L : List (List UInt8)} {t : List UInt8} {s s' : PSt} (e : wrd L t s = .ok s') : s'.rest = s.rest := by
  have ha : ∀ (op v : Int) (u : PSt), add op v u = .ok s' → s'.rest = u.rest := fun op v u h => by
    unfold add at h
    simp only at h
    repeat' (split at h)
    all_goals first | (injection h with h; subst h; rfl) | (cases h)
  unfold wrd at e
  split at e
  · exact ha _ _ _ e
  · split at e
    · exact ha _ _ _ e
    · exact ha 2 (ixL L t) { s with unk := s.unk || decide (ixL L t < 0) } e
theorem opnd_fuel (L : List (List UInt8)) : ∀ n m s, s.rest.length < n → s.rest.length < m → opnd L n s = opnd L m s
  | 0, _, s, h, _ => by omega
  | _, 0, s, _, h => by omega
  | n + 1, m + 1, s, hn, hm => by
    unfold opnd
    rcases hx : nxt s.rest with _ | ⟨t, r⟩
    · rfl
    · simp only
      by_cases c1 : t = [33]
      · have hlt := nxt_lt hx (by rw [c1]; simp)
        rw [if_pos c1, if_pos c1]
        exact opnd_fuel L n m _ (by show r.length < n; omega) (by show r.length < m; omega)
      rw [if_neg c1, if_neg c1]
      by_cases c2 : t = [40]
      · have hlt := nxt_lt hx (by rw [c2]; simp)
        rw [if_pos c2, if_pos c2]
        exact opnd_fuel L n m _ (by show r.length < n; omega) (by show r.length < m; omega)
      rw [if_neg c2, if_neg c2]
theorem opnd_rest (L : List (List UInt8)) : ∀ n s s', opnd L n s = .ok s' → s'.rest.length ≤ s.rest.length
  | 0, s, s', e => by cases e
  | n + 1, s, s', e => by
    unfold opnd at e
    rcases hx : nxt s.rest with _ | ⟨t, r⟩
    · rw [hx] at e; cases e
    · rw [hx] at e
      simp only at e
      have hr := nxt_le hx
      split at e
      · exact Nat.le_trans (opnd_rest L n _ s' e) hr
      · split at e
        · exact Nat.le_trans (opnd_rest L n _ s' e) hr
        · split at e
          · cases e
          · rw [wrd_rest e]; exact hr
theorem optr_fuel : ∀ n m s, s.rest.length < n → s.rest.length < m → optr n s = optr m s
  | 0, _, s, h, _ => by omega
  | _, 0, s, _, h => by omega
  | n + 1, m + 1, s, hn, hm => by
    unfold optr
    rcases hx : nxt s.rest with _ | ⟨t, r⟩
    · rfl
    · simp only
      by_cases c1 : t = [41]
      · have hlt := nxt_lt hx (by rw [c1]; simp)
        rw [if_pos c1, if_pos c1]
        rcases h : app 5 s.wait.length { s with rest := r } with s1 | _ | _
        · have hr := app_rest 5 _ _ _ h
          show (if s1.wait.length = 0 then .syn else optr n _) = (if s1.wait.length = 0 then .syn else optr m _)
          have hr' : s1.rest.length = r.length := by rw [hr]
          rw [optr_fuel n m { s1 with wait := s1.wait.take (s1.wait.length - 1) } (by show s1.rest.length < n; omega) (by show s1.rest.length < m; omega)]
        · rfl
        · rfl
      rw [if_neg c1, if_neg c1]
theorem optr_rest : ∀ n s s', optr n s = .ok (s', true) → s'.rest.length < s.rest.length
  | 0, s, s', e => by cases e
  | n + 1, s, s', e => by
    unfold optr at e
    rcases hx : nxt s.rest with _ | ⟨t, r⟩
    · rw [hx] at e; cases e
    · rw [hx] at e
      simp only at e
      have aw : ∀ op, (awt op { s with rest := r }).bind (fun s => POut.ok (s, true)) = .ok (s', true) → s'.rest = r := fun op h => by
        unfold awt at h
        rcases h1 : app op s.wait.length { s with rest := r } with s1 | _ | _
        · rw [h1] at h
          injection h with h
          injection h with h _
          subst h
          exact app_rest op _ _ _ h1
        · rw [h1] at h; cases h
        · rw [h1] at h; cases h
      by_cases c1 : t = [41]
      · rw [if_pos c1] at e
        have hlt := nxt_lt hx (by rw [c1]; simp)
        rcases h : app 5 s.wait.length { s with rest := r } with s1 | _ | _
        · rw [h] at e
          have e2 : (if s1.wait.length = 0 then .syn else optr n { s1 with wait := s1.wait.take (s1.wait.length - 1) }) = POut.ok (s', true) := e
          split at e2
          · cases e2
          · have h3 : s'.rest.length < s1.rest.length := optr_rest n { s1 with wait := s1.wait.take (s1.wait.length - 1) } s' e2
            have hr : s1.rest = r := app_rest 5 _ _ _ h
            rw [hr] at h3
            omega
        · rw [h] at e; cases e
        · rw [h] at e; cases e
      rw [if_neg c1] at e
      by_cases c2 : t = [38, 38]
      · rw [if_pos c2] at e
        rw [aw 4 e]
        exact nxt_lt hx (by rw [c2]; simp)
      rw [if_neg c2] at e
      by_cases c3 : t = [124, 124]
      · rw [if_pos c3] at e
        rw [aw 5 e]
        exact nxt_lt hx (by rw [c3]; simp)
      rw [if_neg c3] at e
      split at e
      · rcases h : app 5 s.wait.length { s with rest := r } with s1 | _ | _
        · rw [h] at e
          have e2 : (if 0 < s1.wait.length then .syn else POut.ok (s1, false)) = POut.ok (s', true) := e
          split at e2
          · cases e2
          · injection e2 with e2
            injection e2 with _ e3
            cases e3
        · rw [h] at e; cases e
        · rw [h] at e; cases e
      · cases e
theorem expr_fuel (L : List (List UInt8)) : ∀ n m s, s.rest.length < n → s.rest.length < m → expr L n s = expr L m s
  | 0, _, s, h, _ => by omega
  | _, 0, s, _, h => by omega
  | n + 1, m + 1, s, hn, hm => by
    unfold expr
    rcases h : opnd L (s.rest.length + 1) s with s1 | _ | _
    · have h1 := opnd_rest L _ _ _ h
      show (optr (s1.rest.length + 1) s1).bind _ = (optr (s1.rest.length + 1) s1).bind _
      rcases h2 : optr (s1.rest.length + 1) s1 with ⟨s2, b⟩ | _ | _
      · show (if b then expr L n s2 else _) = (if b then expr L m s2 else _)
        cases b
        · rfl
        · have h3 := optr_rest _ _ _ h2
          exact expr_fuel L n m s2 (by omega) (by omega)
      · rfl
      · rfl
    · rfl
    · rfl
def prE (L : List (List UInt8)) (s : PSt) : POut PSt := expr L (s.rest.length + 1) s
def prO (L : List (List UInt8)) (s : PSt) : POut PSt := (optr (s.rest.length + 1) s).bind fun p => if p.2 then prE L p.1 else .ok p.1
theorem prE_eq (L : List (List UInt8)) (s : PSt) : prE L s = (opnd L (s.rest.length + 1) s).bind (prO L) := by
  unfold prE prO
  rw [expr]
  rcases h : opnd L (s.rest.length + 1) s with s1 | _ | _
  · have h1 := opnd_rest L _ _ _ h
    show (optr (s1.rest.length + 1) s1).bind _ = (optr (s1.rest.length + 1) s1).bind _
    rcases h2 : optr (s1.rest.length + 1) s1 with ⟨s2, b⟩ | _ | _
    · show (if b then expr L _ s2 else _) = (if b then prE L s2 else _)
      cases b
      · rfl
      · have h3 := optr_rest _ _ _ h2
        exact expr_fuel L _ _ s2 (by omega) (by omega)
    · rfl
    · rfl
  · rfl
  · rfl
theorem prs_E (L : List (List UInt8)) (t : List UInt8) : prs L t = prE L { rest := t, wait := [], nodes := [], sizes := [], unk := false } := rfl
section
variable {L : List (List UInt8)} {s : PSt} {r : List UInt8}
theorem prE_not (h : nxt s.rest = some ([33], r)) : prE L s = prE L { s with rest := r, wait := s.wait ++ [3] } := by
  have hlt := nxt_lt h (by simp)
  rw [prE_eq, prE_eq, opnd, h]
  simp only [if_true]
  rw [opnd_fuel L _ (r.length + 1) { s with rest := r, wait := s.wait ++ [3] } (by show r.length < _; omega) (by show r.length < _; omega)]
theorem prE_par (h : nxt s.rest = some ([40], r)) : prE L s = prE L { s with rest := r, wait := s.wait ++ [-1] } := by
  have hlt := nxt_lt h (by simp)
  rw [prE_eq, prE_eq, opnd, h]
  simp only
  rw [if_neg (by decide), if_pos trivial]
  rw [opnd_fuel L _ (r.length + 1) { s with rest := r, wait := s.wait ++ [-1] } (by show r.length < _; omega) (by show r.length < _; omega)]
theorem prE_wrd {t : List UInt8} (h : nxt s.rest = some (t, r)) (h1 : t ≠ [33]) (h2 : t ≠ [40]) (h3 : ¬ (t = [38, 38] ∨ t = [124, 124] ∨ t = [41] ∨ t = [])) : prE L s = (wrd L t { s with rest := r }).bind (prO L) := by
  rw [prE_eq, opnd, h]
  simp only
  rw [if_neg h1, if_neg h2, if_neg h3]
theorem prO_par (h : nxt s.rest = some ([41], r)) : prO L s = (app 5 s.wait.length { s with rest := r }).bind fun s => if s.wait.length = 0 then .syn else prO L { s with wait := s.wait.take (s.wait.length - 1) } := by
  have hlt := nxt_lt h (by simp)
  unfold prO
  rw [optr, h]
  simp only [if_true]
  rcases h1 : app 5 s.wait.length { s with rest := r } with s1 | _ | _
  · have hr : s1.rest = r := app_rest 5 _ _ _ h1
    show POut.bind (if s1.wait.length = 0 then .syn else optr _ _) _ = (if s1.wait.length = 0 then .syn else _)
    by_cases c : s1.wait.length = 0
    · rw [if_pos c, if_pos c]; rfl
    · rw [if_neg c, if_neg c]
      rw [optr_fuel _ (s1.rest.length + 1) { s1 with wait := s1.wait.take (s1.wait.length - 1) } (by show s1.rest.length < _; rw [hr]; omega) (by show s1.rest.length < _; omega)]
  · rfl
  · rfl
theorem prO_bin {op : Int} (hop : op = 4 ∨ op = 5) (h : nxt s.rest = some (if op = 4 then [38, 38] else [124, 124], r)) : prO L s = (awt op { s with rest := r }).bind (prE L) := by
  unfold prO
  rcases hop with e | e
  · subst e
    have h' : nxt s.rest = some ([38, 38], r) := h
    rw [optr, h']
    simp only
    rw [if_neg (by decide), if_pos trivial]
    rcases awt 4 { s with rest := r } with s1 | _ | _ <;> rfl
  · subst e
    have h' : nxt s.rest = some ([124, 124], r) := h
    rw [optr, h']
    simp only
    rw [if_neg (by decide), if_neg (by decide), if_pos trivial]
    rcases awt 5 { s with rest := r } with s1 | _ | _ <;> rfl
theorem prO_end (h : nxt s.rest = some ([], r)) : prO L s = (app 5 s.wait.length { s with rest := r }).bind fun s => if 0 < s.wait.length then .syn else .ok s := by
  unfold prO
  rw [optr, h]
  simp only
  rw [if_neg (by decide), if_neg (by decide), if_neg (by decide), if_pos trivial]
  rcases app 5 s.wait.length { s with rest := r } with s1 | _ | _
  · show POut.bind (if 0 < s1.wait.length then .syn else .ok (s1, false)) _ = (if 0 < s1.wait.length then .syn else .ok s1)
    by_cases c : 0 < s1.wait.length
    · rw [if_pos c, if_pos c]; rfl
    · rw [if_neg c, if_neg c]; rfl
  · rfl
  · rfl
end
theorem nxt_blank (b : UInt8) (hb : blk8 b = true) (l : List UInt8) : nxt (b :: l) = nxt l := by
  unfold nxt
  simp [hb]
theorem nxt_one {b : UInt8} {l : List UInt8} (h : b = 33 ∨ b = 40 ∨ b = 41) : nxt (b :: l) = some ([b], l) := by
  rcases h with e | e | e <;> subst e <;> rfl
theorem nxt_end : nxt [] = some ([], []) := rfl
end Go.Proofs.YtignkplogkaigaaDoor
namespace Go.Proofs.YtignkplogkaigaaDoor
set_option linter.unusedVariables false
set_option linter.unusedSimpArgs false
def upd (r : List UInt8) (w : List Int) (s : PSt) : PSt := { s with rest := r, wait := w }
theorem add_upd (op v : Int) (r : List UInt8) (w : List Int) (s : PSt) : add op v (upd r w s) = (add op v s).bind fun t => .ok (upd r w t) := by
  unfold add upd
  simp only
  repeat' (split)
  all_goals first | rfl | omega | contradiction
def fin (l : List Fi) : Nat → Nat → PSt → POut PSt
  | 0, _, _ => .bad
  | n + 1, k, s =>
    if ar (fo l k) = 0 then add (fo l k) (fv l k) s else
    if ar (fo l k) = 1 then (fin l n (fa l k).toNat s).bind fun t => add (fo l k) 0 t else
    (fin l n (fa l k).toNat s).bind fun t => (fin l n (fb l k).toNat t).bind fun u => add (fo l k) 0 u
theorem bind_ok' {α β : Type} {x : POut α} {f : α → POut β} {y : β} (h : x.bind f = .ok y) : ∃ a, x = .ok a ∧ f a = .ok y := by
  rcases x with a | _ | _
  · exact ⟨a, rfl, h⟩
  · cases h
  · cases h
theorem add_rst (op v : Int) (r : List UInt8) (s : PSt) : add op v { s with rest := r } = (add op v s).bind fun t => .ok { t with rest := r } := by
  unfold add
  simp only
  repeat' (split)
  all_goals first | rfl | omega | contradiction
theorem app_rst (op : Int) (r : List UInt8) : ∀ n s, app op n { s with rest := r } = (app op n s).bind fun t => .ok { t with rest := r }
  | 0, s => rfl
  | n + 1, s => by
    unfold app
    simp only
    split
    · rfl
    · rw [add_rst]
      rcases add (s.wait.getD n 0) 0 s with a | _ | _
      · exact app_rst op r n { a with wait := a.wait.take n }
      · rfl
      · rfl
def Top (w : List Int) (g : Nat) : Prop := w = [] ∨ ∃ w' x, w = w' ++ [x] ∧ (x = -1 ∨ sgv x < g)
theorem app_top (op : Int) (s : PSt) (h : Top s.wait (sgv op)) : app op s.wait.length s = .ok s := by
  rcases h with h | ⟨w', x, h, hx⟩
  · rw [h]; rfl
  · rw [h, List.length_append, List.length_singleton]
    unfold app
    have e : s.wait.getD w'.length 0 = x := by
      rw [h, List.getD_eq_getElem?_getD, List.getElem?_append_right (Nat.le_refl _)]; simp
    simp only [e]
    rw [if_pos hx]
theorem app_pop (op x : Int) (w : List Int) (s : PSt) (h : s.wait = w ++ [x]) (hx : ¬ (x = -1 ∨ sgv x < sgv op)) : app op s.wait.length s = (add x 0 s).bind fun s' => app op w.length { s' with wait := s'.wait.take w.length } := by
  rw [h, List.length_append, List.length_singleton]
  rw [app]
  have e : s.wait.getD w.length 0 = x := by
    rw [h, List.getD_eq_getElem?_getD, List.getElem?_append_right (Nat.le_refl _)]; simp
  simp only [e]
  rw [if_neg hx]
section
variable {l : List Fi} {L : List ByteArray} {LL : List (List UInt8)} {m k : Nat}
theorem sgv_le {op : Int} (h : op = 4 ∨ op = 5) : sgv op ≤ 2 := by rcases h with e | e <;> subst e <;> decide
end
end Go.Proofs.YtignkplogkaigaaDoor
namespace Go.Proofs.YtignkplogkaigaaDoor
set_option linter.unusedVariables false
set_option linter.unusedSimpArgs false
end Go.Proofs.YtignkplogkaigaaDoor
namespace Go.Proofs.YtignkplogkaigaaDoor
set_option linter.unusedVariables false
set_option linter.unusedSimpArgs false
theorem lt_blk {b : UInt8} (h : lt8 b = true) : blk8 b = false ∧ b ≠ 38 ∧ b ≠ 124 ∧ b ≠ 33 ∧ b ≠ 40 ∧ b ≠ 41 := by
  have : ∀ b : UInt8, lt8 b = true → blk8 b = false ∧ b ≠ 38 ∧ b ≠ 124 ∧ b ≠ 33 ∧ b ≠ 40 ∧ b ≠ 41 := by
    intro b
    obtain ⟨⟨n⟩⟩ := b
    revert n
    decide +kernel
  exact this b h
end Go.Proofs.YtignkplogkaigaaDoor
namespace Go.Proofs.YtignkplogkaigaaDoor
set_option linter.unusedVariables false
set_option linter.unusedSimpArgs false
end Go.Proofs.YtignkplogkaigaaDoor
namespace Go.Proofs.YtignkplogkaigaaDoor
set_option linter.unusedVariables false
set_option linter.unusedSimpArgs false
def Tk : List (List UInt8) → List UInt8 → Prop
  | [], r => nxt r = some ([], [])
  | t :: ts, r => t ≠ [] ∧ ∃ r', nxt r = some (t, r') ∧ Tk ts r'
section
variable {L : List (List UInt8)} {s : PSt} {r : List UInt8} {t : List UInt8}
theorem prE_syn (h : nxt s.rest = some (t, r)) (h3 : t = [38, 38] ∨ t = [124, 124] ∨ t = [41] ∨ t = []) : prE L s = .syn := by
  rw [prE_eq, opnd, h]
  simp only
  rw [if_neg (by rcases h3 with q | q | q | q <;> subst q <;> decide), if_neg (by rcases h3 with q | q | q | q <;> subst q <;> decide), if_pos h3]
  rfl
theorem prO_syn (h : nxt s.rest = some (t, r)) (h1 : t ≠ [41]) (h2 : t ≠ [38, 38]) (h3 : t ≠ [124, 124]) (h4 : t ≠ []) : prO L s = .syn := by
  unfold prO
  rw [optr, h]
  simp only
  rw [if_neg h1, if_neg h2, if_neg h3, if_neg h4]
  rfl
theorem prE_none (h : nxt s.rest = none) : prE L s = .syn := by
  rw [prE_eq, opnd, h]
  rfl
theorem prO_none (h : nxt s.rest = none) : prO L s = .syn := by
  unfold prO
  rw [optr, h]
  rfl
theorem wrd_rst (t : List UInt8) (r : List UInt8) (w : List Int) (s : PSt) : wrd L t (upd r w s) = (wrd L t s).bind fun u => .ok (upd r w u) := by
  unfold wrd
  split
  · exact add_upd _ _ _ _ _
  · split
    · exact add_upd _ _ _ _ _
    · show add 2 (ixL L t) (upd r w { s with unk := s.unk || decide (ixL L t < 0) }) = _
      exact add_upd _ _ _ _ _
end
def ng (r : List UInt8) : Prop := r = [] ∨ ∃ b t, r = b :: t ∧ (lt8 b || dg8 b) = false
theorem nxt_wordN {b : UInt8} {x r : List UInt8} (hb : lt8 b = true) (hx : ∀ c ∈ x, (lt8 c || dg8 c) = true) (hr : ng r) : nxt ((b :: x) ++ r) = some (b :: x, r) := by
  obtain ⟨h1, h2, h3, h4, h5, h6⟩ := lt_blk hb
  have htw : (x ++ r).takeWhile (fun c => lt8 c || dg8 c) = x := by
    rw [List.takeWhile_append_of_pos hx]
    rcases hr with e | ⟨c, t, e, hc⟩
    · rw [e]; simp
    · rw [e, List.takeWhile_cons_of_neg (by rw [hc]; decide)]
      simp
  have hw : tkN (b :: (x ++ r)) = some (1 + x.length) := by
    unfold tkN
    show (if b = 38 ∧ _ then _ else _) = _
    rw [if_neg (fun q => h2 q.1), if_neg (fun q => h3 q.1), if_neg (by rintro (q | q | q); exact h4 q; exact h5 q; exact h6 q), if_pos hb]
    show some (if lt8 b then 1 + ((x ++ r).takeWhile (fun c => lt8 c || dg8 c)).length else 0) = _
    rw [if_pos hb, htw]
  unfold nxt
  have hd : ((b :: x) ++ r).dropWhile blk8 = b :: (x ++ r) := by
    show (b :: (x ++ r)).dropWhile blk8 = _
    rw [List.dropWhile_cons_of_neg (by rw [h1]; decide)]
  rw [hd]
  show (tkN (b :: (x ++ r))).map (fun n => ((b :: (x ++ r)).take n, (b :: (x ++ r)).drop n)) = _
  rw [hw]
  show some ((b :: (x ++ r)).take (1 + x.length), (b :: (x ++ r)).drop (1 + x.length)) = _
  rw [Nat.add_comm 1 x.length, List.take_succ_cons, List.drop_succ_cons]
  simp
theorem nxt_oo {o : UInt8} (ho : o = 38 ∨ o = 124) (s : List UInt8) : nxt (o :: o :: s) = some ([o, o], s) := by
  rcases ho with q | q <;> subst q <;> rfl
end Go.Proofs.YtignkplogkaigaaDoor
