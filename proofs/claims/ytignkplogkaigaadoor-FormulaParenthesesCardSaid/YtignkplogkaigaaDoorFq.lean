/-
  Plain mathematics and contracts of package diagram, several texts in one: PRd, PPn, PPb, PMv.
-/
import Derived.Test.YtignkplogkaigaaDoorFp
import Derived.Test.YtignkplogkaigaaDoorFo

/-! The parser in recursive descent, over tokens; it answers what the code's parser answers. -/
namespace Go.Proofs.YtignkplogkaigaaDoor
set_option linter.unusedVariables false
set_option linter.unusedSimpArgs false

abbrev Tks := List (List UInt8)
/-- further operands of an operator -/
def lp (op : Int) (tok : List UInt8) (G : Tks → PSt → POut (Tks × PSt)) : Nat → Tks → PSt → POut (Tks × PSt)
  | 0, _, _ => .bad
  | m + 1, ts, s => if ts.head? = some tok then (G ts.tail s).bind fun p => (add op 0 p.2).bind fun u => lp op tok G m p.1 u else .ok (ts, s)
def sq (op : Int) (tok : List UInt8) (G : Tks → PSt → POut (Tks × PSt)) (ts : Tks) (s : PSt) : POut (Tks × PSt) := (G ts s).bind fun p => lp op tok G (p.1.length + 1) p.1 p.2
/-- a factor -/
def rdF (L : Tks) : Nat → Tks → PSt → POut (Tks × PSt)
  | 0, _, _ => .bad
  | _ + 1, [], _ => .syn
  | n + 1, t :: ts, s =>
    if t = [33] then (rdF L n ts s).bind fun p => (add 3 0 p.2).bind fun u => .ok (p.1, u) else
    if t = [40] then (sq 5 [124, 124] (sq 4 [38, 38] (rdF L n)) ts s).bind fun p => if p.1.head? = some [41] then .ok (p.1.tail, p.2) else .syn else
    if t = [38, 38] ∨ t = [124, 124] ∨ t = [41] ∨ t = [] then .syn else (wrd L t s).bind fun u => .ok (ts, u)
/-- an expression -/
def rdE (L : Tks) (n : Nat) : Tks → PSt → POut (Tks × PSt) := sq 5 [124, 124] (sq 4 [38, 38] (rdF L n))

theorem Tk.tail {t : List UInt8} {ts : Tks} {r : List UInt8} (h : Tk (t :: ts) r) : t ≠ [] ∧ ∃ r', nxt r = some (t, r') ∧ Tk ts r' := h
theorem StkW.upd {ks : List Nat} {s : PSt} (r : List UInt8) (w : List Int) (h : StkW ks s) : StkW ks (upd r w s) := h
theorem wrd_stk (L : Tks) (t : List UInt8) {ks : List Nat} {s : PSt} (h : StkW ks s) : ∃ s', wrd L t s = .ok s' ∧ StkW (1 :: ks) s' := by
  unfold wrd
  split
  · obtain ⟨s', e, k, _⟩ := add0_st (op := 1) (v := 0) rfl h
    exact ⟨s', e, k⟩
  · split
    · obtain ⟨s', e, k, _⟩ := add0_st (op := 0) (v := 0) rfl h
      exact ⟨s', e, k⟩
    · obtain ⟨s', e, k, _⟩ := add0_st (op := 2) (v := ixL L t) rfl (s := { s with unk := s.unk || decide (ixL L t < 0) }) h
      exact ⟨s', e, k⟩
/-- what the code's parser makes of the same tokens; g: how tightly the operators at hand bind -/
def SPn (L : Tks) (g : Nat) (G : Tks → PSt → POut (Tks × PSt)) (ts : Tks) : Prop := ∀ (s : PSt) (r : List UInt8) (ks : List Nat), Tk ts r → StkW ks s →
  (G ts s = .syn ∧ ∀ w, (g ≤ 2 → Top w g) → prE L (upd r w s) = .syn) ∨
  ∃ ts' s' r' k, G ts s = .ok (ts', s') ∧ ts'.length < ts.length ∧ Tk ts' r' ∧ StkW (k :: ks) s' ∧ (g ≤ 2 → ts'.head? ≠ some [38, 38]) ∧ (g ≤ 1 → ts'.head? ≠ some [124, 124]) ∧
    ∀ w, (g ≤ 2 → Top w g) → ∃ s1, s1.rest = r' ∧ prE L (upd r w s) = prO L s1 ∧ ∀ op : Int, op = 4 ∨ op = 5 → sgv op ≤ g → app op s1.wait.length s1 = app op w.length (upd r' w s')
theorem top_push (w : List Int) {op : Int} {g : Nat} (h : op = -1 ∨ sgv op < g) : Top (w ++ [op]) g := .inr ⟨w, op, rfl, h⟩
theorem Top.up {w : List Int} {g : Nat} (h : Top w g) : Top w (g + 1) := by
  rcases h with h | ⟨w', x, e, h⟩
  · exact .inl h
  · exact .inr ⟨w', x, e, by omega⟩
theorem awt_of {s1 s' : PSt} {op : Int} {w : List Int} {r' r2 : List UInt8} (hr : s1.rest = r') (ha : app op s1.wait.length s1 = app op w.length (upd r' w s')) (hT : Top w (sgv op)) : awt op { s1 with rest := r2 } = .ok (upd r2 (w ++ [op]) s') := by
  unfold awt
  show (app op s1.wait.length { s1 with rest := r2 }).bind _ = _
  rw [app_rst, ha]
  have := app_top op (upd r' w s') hT
  rw [show app op w.length (upd r' w s') = .ok (upd r' w s') from this]
  rfl
/-- popping an operator -/
theorem pop_of {op x : Int} {w : List Int} {r' : List UInt8} {s' u : PSt} (hadd : add x 0 s' = .ok u) (hx : ¬ (x = -1 ∨ sgv x < sgv op)) : app op (w ++ [x]).length (upd r' (w ++ [x]) s') = app op w.length (upd r' w u) := by
  refine (app_pop op x w (upd r' (w ++ [x]) s') rfl hx).trans ?_
  rw [add_upd, hadd]
  show app op w.length { upd r' (w ++ [x]) u with wait := (w ++ [x]).take w.length } = _
  rw [List.take_append_of_le_length (Nat.le_refl _), List.take_length]
  rfl
theorem prO_op {L : Tks} {op : Int} (hop : op = 4 ∨ op = 5) {s1 : PSt} {r2 : List UInt8} (h : nxt s1.rest = some (if op = 4 then [38, 38] else [124, 124], r2)) {s' : PSt} {w : List Int} {r' : List UInt8} (hr : s1.rest = r') (ha : app op s1.wait.length s1 = app op w.length (upd r' w s')) (hT : Top w (sgv op)) : prO L s1 = prE L (upd r2 (w ++ [op]) s') := by
  rw [prO_bin hop h, awt_of hr ha hT]
  rfl
theorem lp_sp {L : Tks} {op : Int} (hop : op = 4 ∨ op = 5) {G : Tks → PSt → POut (Tks × PSt)} {n : Nat} (HG : ∀ ts, ts.length < n → SPn L (sgv op + 1) G ts) :
    ∀ m ts s' r' k ks, ts.length < m → ts.length < n → Tk ts r' → StkW (k :: ks) s' → (sgv op ≤ 1 → ts.head? ≠ some [38, 38]) →
    (lp op (if op = 4 then [38, 38] else [124, 124]) G m ts s' = .syn ∧ ∀ w s1, Top w (sgv op) → s1.rest = r' → (∀ o : Int, o = 4 ∨ o = 5 → sgv o ≤ sgv op → app o s1.wait.length s1 = app o w.length (upd r' w s')) → prO L s1 = .syn) ∨
    ∃ ts2 s2 r2 k2, lp op (if op = 4 then [38, 38] else [124, 124]) G m ts s' = .ok (ts2, s2) ∧ ts2.length ≤ ts.length ∧ Tk ts2 r2 ∧ StkW (k2 :: ks) s2 ∧ ts2.head? ≠ some (if op = 4 then [38, 38] else [124, 124]) ∧ (sgv op ≤ 1 → ts2.head? ≠ some [38, 38]) ∧
      ∀ w s1, Top w (sgv op) → s1.rest = r' → (∀ o : Int, o = 4 ∨ o = 5 → sgv o ≤ sgv op → app o s1.wait.length s1 = app o w.length (upd r' w s')) →
        ∃ s3, s3.rest = r2 ∧ prO L s1 = prO L s3 ∧ ∀ o : Int, o = 4 ∨ o = 5 → sgv o ≤ sgv op → app o s3.wait.length s3 = app o w.length (upd r2 w s2)
  | 0, ts, s', r', k, ks, h, _, _, _, _ => by omega
  | m + 1, ts, s', r', k, ks, h, hn, hk, hs, hh => by
    rw [lp]
    by_cases c : ts.head? = some (if op = 4 then [38, 38] else [124, 124])
    rotate_left
    · rw [if_neg c]
      exact .inr ⟨ts, s', r', k, rfl, Nat.le_refl _, hk, hs, c, hh, fun w s1 _ hr ha => ⟨s1, hr, rfl, ha⟩⟩
    rw [if_pos c]
    cases ts with
    | nil => cases c
    | cons t ts =>
      have ht : t = (if op = 4 then [38, 38] else [124, 124]) := by injection c
      obtain ⟨_, r1, hx, hk1⟩ := hk
      rw [ht] at hx
      show (((G ts s').bind fun p => _) = _ ∧ _) ∨ (∃ _ _ _ _, ((G ts s').bind fun p => _) = _ ∧ _)
      simp only [List.length_cons] at h hn
      rcases HG ts (by omega) s' r1 (k :: ks) hk1 hs with ⟨e, hsyn⟩ | ⟨ts1, s1', r2, k1, e, hl, hk2, hs2, hg1, hg2, hw⟩
      · rw [e]
        refine .inl ⟨rfl, fun w s1 hT hr ha => ?_⟩
        rw [prO_op hop (by rw [hr]; exact hx) hr (ha op hop (Nat.le_refl _)) hT]
        exact hsyn _ (fun _ => top_push w (.inr (by omega)))
      rw [e]
      obtain ⟨u, eu, hu, _⟩ := add2_st (op := op) (v := 0) (by rcases hop with q | q <;> subst q <;> rfl) hs2
      show (((add op 0 s1').bind fun u => _) = _ ∧ _) ∨ (∃ _ _ _ _, ((add op 0 s1').bind fun u => _) = _ ∧ _)
      rw [eu]
      have stp : ∀ w s1, Top w (sgv op) → s1.rest = r' → (∀ o : Int, o = 4 ∨ o = 5 → sgv o ≤ sgv op → app o s1.wait.length s1 = app o w.length (upd r' w s')) → ∃ s3, s3.rest = r2 ∧ prO L s1 = prO L s3 ∧ ∀ o : Int, o = 4 ∨ o = 5 → sgv o ≤ sgv op → app o s3.wait.length s3 = app o w.length (upd r2 w u) := by
        intro w s1 hT hr ha
        obtain ⟨s3, q1, q2, q3⟩ := hw (w ++ [op]) (fun _ => top_push w (.inr (by omega)))
        refine ⟨s3, q1, ?_, fun o ho hle => ?_⟩
        · rw [prO_op hop (by rw [hr]; exact hx) hr (ha op hop (Nat.le_refl _)) hT]
          exact q2
        · rw [q3 o ho (by omega)]
          exact pop_of eu (by rcases hop with q | q <;> omega)
      rcases lp_sp hop HG m ts1 u r2 _ ks (by omega) (by omega) hk2 hu (fun _ => hg1 (by omega)) with ⟨e2, hsyn⟩ | ⟨ts2, s2, r3, k2, e2, hl2, hk3, hs3, hh1, hh2, hw2⟩
      · refine .inl ⟨e2, fun w s1 hT hr ha => ?_⟩
        obtain ⟨s3, q1, q2, q3⟩ := stp w s1 hT hr ha
        rw [q2]
        exact hsyn w s3 hT q1 q3
      · refine .inr ⟨ts2, s2, r3, k2, e2, by simp only [List.length_cons]; omega, hk3, hs3, hh1, hh2, fun w s1 hT hr ha => ?_⟩
        obtain ⟨s3, q1, q2, q3⟩ := stp w s1 hT hr ha
        obtain ⟨s4, q4, q5, q6⟩ := hw2 w s3 hT q1 q3
        exact ⟨s4, q4, q2.trans q5, q6⟩
theorem sq_sp {L : Tks} {op : Int} (hop : op = 4 ∨ op = 5) {G : Tks → PSt → POut (Tks × PSt)} {n : Nat} (HG : ∀ ts, ts.length < n → SPn L (sgv op + 1) G ts) : ∀ ts, ts.length < n → SPn L (sgv op) (sq op (if op = 4 then [38, 38] else [124, 124]) G) ts := by
  intro ts hn s r ks hk hs
  have hs2 := sgv_le hop
  unfold sq
  rcases HG ts hn s r ks hk hs with ⟨e, hsyn⟩ | ⟨ts1, s1', r1, k1, e, hl, hk1, hst, hg1, hg2, hw⟩
  · rw [e]
    exact .inl ⟨rfl, fun w hT => hsyn w (fun _ => (hT hs2).up)⟩
  rw [e]
  show ((lp op _ G (ts1.length + 1) ts1 s1') = _ ∧ _) ∨ (∃ _ _ _ _, (lp op _ G (ts1.length + 1) ts1 s1') = _ ∧ _)
  rcases lp_sp hop HG (ts1.length + 1) ts1 s1' r1 k1 ks (by omega) (by omega) hk1 hst (fun _ => hg1 (by omega)) with ⟨e2, hsyn⟩ | ⟨ts2, s2, r2, k2, e2, hl2, hk2, hst2, hh1, hh2, hw2⟩
  · refine .inl ⟨e2, fun w hT => ?_⟩
    obtain ⟨s1, q1, q2, q3⟩ := hw w (fun _ => (hT hs2).up)
    rw [q2]
    exact hsyn w s1 (hT hs2) q1 (fun o ho hle => q3 o ho (by omega))
  · refine .inr ⟨ts2, s2, r2, k2, e2, by omega, hk2, hst2, fun hle => ?_, fun hle => ?_, fun w hT => ?_⟩
    · rcases hop with q | q
      · subst q; exact hh1
      · subst q; exact hh2 (by decide)
    · rcases hop with q | q
      · subst q; exact absurd hle (by decide)
      · subst q; exact hh1
    · obtain ⟨s1, q1, q2, q3⟩ := hw w (fun _ => (hT hs2).up)
      obtain ⟨s3, q4, q5, q6⟩ := hw2 w s1 (hT hs2) q1 (fun o ho hle => q3 o ho (by omega))
      exact ⟨s3, q4, q2.trans q5, q6⟩
theorem rdF_sp (L : Tks) : ∀ n ts, ts.length < n → SPn L 3 (rdF L n) ts
  | 0, ts, h => by omega
  | n + 1, [], h => by
    intro s r ks hk hs
    exact .inl ⟨rfl, fun w _ => prE_syn (s := upd r w s) (t := []) (r := []) hk (by simp)⟩
  | n + 1, t :: ts, h => by
    intro s r ks hk hs
    obtain ⟨hne, r1, hx, hk1⟩ := hk
    simp only [List.length_cons] at h
    rw [rdF]
    by_cases h1 : t = [33]
    · subst h1
      rw [if_pos rfl]
      rcases rdF_sp L n ts (by omega) s r1 ks hk1 hs with ⟨e, hsyn⟩ | ⟨ts1, s1', r2, k1, e, hl, hk2, hst, _, _, hw⟩
      · rw [e]
        refine .inl ⟨rfl, fun w _ => ?_⟩
        rw [prE_not (s := upd r w s) (r := r1) hx]
        exact hsyn (w ++ [3]) (fun q => by omega)
      · rw [e]
        obtain ⟨u, eu, hu, _⟩ := add1_st (op := 3) (v := 0) rfl hst
        refine .inr ⟨ts1, u, r2, _, by show ((add 3 0 s1').bind _) = _; rw [eu]; rfl, by simp only [List.length_cons]; omega, hk2, hu, fun q => by omega, fun q => by omega, fun w _ => ?_⟩
        obtain ⟨s1, q1, q2, q3⟩ := hw (w ++ [3]) (fun q => by omega)
        refine ⟨s1, q1, ?_, fun o ho hle => ?_⟩
        · rw [prE_not (s := upd r w s) (r := r1) hx]
          exact q2
        · rw [q3 o ho hle]
          have := sgv_le ho
          exact pop_of eu (by have : sgv 3 = 3 := rfl; omega)
    rw [if_neg h1]
    by_cases h2 : t = [40]
    · subst h2
      rw [if_pos rfl]
      have HC : ∀ ts, ts.length < n → SPn L 2 (sq 4 [38, 38] (rdF L n)) ts := sq_sp (op := 4) (.inl rfl) (rdF_sp L n)
      have HE : ∀ ts, ts.length < n → SPn L 1 (sq 5 [124, 124] (sq 4 [38, 38] (rdF L n))) ts := sq_sp (op := 5) (.inr rfl) HC
      rcases HE ts (by omega) s r1 ks hk1 hs with ⟨e, hsyn⟩ | ⟨ts1, s1', r2, k1, e, hl, hk2, hst, hg1, hg2, hw⟩
      · rw [e]
        refine .inl ⟨rfl, fun w _ => ?_⟩
        rw [prE_par (s := upd r w s) (r := r1) hx]
        exact hsyn (w ++ [-1]) (fun q => top_push w (.inl rfl))
      rw [e]
      have hg1 := hg1 (by omega)
      have hg2 := hg2 (by omega)
      have stp : ∀ w, ∃ s1, s1.rest = r2 ∧ prE L (upd r w s) = prO L s1 ∧ app 5 s1.wait.length s1 = .ok (upd r2 (w ++ [-1]) s1') := by
        intro w
        obtain ⟨s1, q1, q2, q3⟩ := hw (w ++ [-1]) (fun q => top_push w (.inl rfl))
        refine ⟨s1, q1, ?_, ?_⟩
        · rw [prE_par (s := upd r w s) (r := r1) hx]
          exact q2
        · exact (q3 5 (.inr rfl) (by decide)).trans (app_top 5 (upd r2 (w ++ [-1]) s1') (top_push w (.inl rfl)))
      show ((if ts1.head? = some [41] then _ else _) = _ ∧ _) ∨ (∃ _ _ _ _, (if ts1.head? = some [41] then _ else _) = _ ∧ _)
      cases ts1 with
      | nil =>
        rw [if_neg (by decide)]
        refine .inl ⟨rfl, fun w _ => ?_⟩
        obtain ⟨s1, q1, q2, q3⟩ := stp w
        rw [q2, prO_end (r := []) (by rw [q1]; exact hk2), app_rst, q3]
        show (if 0 < (w ++ [-1]).length then _ else _) = _
        rw [if_pos (by simp)]
      | cons t2 ts2 =>
        obtain ⟨hne2, r3, hx2, hk3⟩ := hk2
        by_cases h3 : t2 = [41]
        · subst h3
          rw [if_pos (show ([41] :: ts2 : Tks).head? = some [41] from rfl)]
          simp only [List.length_cons] at hl
          refine .inr ⟨ts2, s1', r3, k1, rfl, by simp only [List.length_cons]; omega, hk3, hst, fun q => by omega, fun q => by omega, fun w _ => ?_⟩
          obtain ⟨s1, q1, q2, q3⟩ := stp w
          refine ⟨upd r3 w s1', rfl, ?_, fun o _ _ => rfl⟩
          rw [q2, prO_par (r := r3) (by rw [q1]; exact hx2), app_rst, q3]
          show (if (w ++ [-1]).length = 0 then _ else prO L (upd r3 ((w ++ [-1]).take ((w ++ [-1]).length - 1)) s1')) = _
          rw [if_neg (by simp)]
          have : (w ++ [-1]).take ((w ++ [-1]).length - 1) = w := by simp
          rw [this]
        · rw [if_neg (by intro q; injection q with q; exact h3 q)]
          refine .inl ⟨rfl, fun w _ => ?_⟩
          obtain ⟨s1, q1, q2, q3⟩ := stp w
          rw [q2]
          exact prO_syn (by rw [q1]; exact hx2) h3 (fun q => hg1 (by rw [q]; rfl)) (fun q => hg2 (by rw [q]; rfl)) hne2
    rw [if_neg h2]
    by_cases h3 : t = [38, 38] ∨ t = [124, 124] ∨ t = [41] ∨ t = []
    · rw [if_pos h3]
      exact .inl ⟨rfl, fun w _ => prE_syn (s := upd r w s) hx h3⟩
    rw [if_neg h3]
    obtain ⟨u, eu, hu⟩ := wrd_stk L t hs
    refine .inr ⟨ts, u, r1, 1, by rw [eu]; rfl, by simp, hk1, hu, fun q => by omega, fun q => by omega, fun w _ => ⟨upd r1 w u, rfl, ?_, fun o _ _ => rfl⟩⟩
    rw [prE_wrd (s := upd r w s) hx h1 h2 h3]
    show (wrd L t (upd r1 w s)).bind _ = _
    rw [wrd_rst, eu]
    rfl
theorem rdE_sp (L : Tks) (n : Nat) : ∀ ts, ts.length < n → SPn L 1 (rdE L n) ts :=
  sq_sp (op := 5) (.inr rfl) (sq_sp (op := 4) (.inl rfl) (rdF_sp L n))
/-- the state ahead of a text -/
def stZ : PSt := { rest := [], wait := [], nodes := [], sizes := [], unk := false }
/-- the parser's answer by recursive descent -/
theorem prs_rd (L : Tks) {ts : Tks} {r : List UInt8} (h : Tk ts r) : prs L r = match rdE L (ts.length + 1) ts stZ with
    | .ok (ts', s') => if ts' = [] then .ok (upd [] [] s') else .syn
    | _ => .syn := by
  rw [prs_E]
  show prE L (upd r [] stZ) = _
  rcases rdE_sp L (ts.length + 1) ts (by omega) stZ r [] h (.inr ⟨rfl, rfl⟩) with ⟨e, hsyn⟩ | ⟨ts1, s1', r2, k1, e, hl, hk2, hst, hg1, hg2, hw⟩
  · rw [e]
    exact hsyn [] (fun _ => .inl rfl)
  rw [e]
  obtain ⟨s1, q1, q2, q3⟩ := hw [] (fun _ => .inl rfl)
  have q4 : app 5 s1.wait.length s1 = .ok (upd r2 [] s1') := (q3 5 (.inr rfl) (by decide)).trans (app_top 5 (upd r2 [] s1') (.inl rfl))
  have hg1 := hg1 (by omega)
  have hg2 := hg2 (by omega)
  rw [q2]
  show _ = if ts1 = [] then _ else _
  cases ts1 with
  | nil =>
    rw [if_pos rfl, prO_end (r := []) (by rw [q1]; exact hk2), app_rst, q4]
    rfl
  | cons t2 ts2 =>
    obtain ⟨hne2, r3, hx2, hk3⟩ := hk2
    rw [if_neg (by simp)]
    by_cases h3 : t2 = [41]
    · subst h3
      rw [prO_par (r := r3) (by rw [q1]; exact hx2), app_rst, q4]
      rfl
    · exact prO_syn (by rw [q1]; exact hx2) h3 (fun q => hg1 (by rw [q]; rfl)) (fun q => hg2 (by rw [q]; rfl)) hne2

end Go.Proofs.YtignkplogkaigaaDoor

/-! No expression of a formula has fewer parentheses than its printed text. -/
namespace Go.Proofs.YtignkplogkaigaaDoor
set_option linter.unusedVariables false
set_option linter.unusedSimpArgs false

/-- how many opening parentheses tokens are -/
def np (ts : Tks) : Nat := ts.count [40]
theorem np_one (t : List UInt8) (ts : Tks) (h : t ≠ [40]) : np (t :: ts) = np ts := by
  unfold np
  rw [List.count_cons, if_neg (by simpa using h)]; rfl
theorem np_par (ts : Tks) : np ([40] :: ts) = np ts + 1 := by
  unfold np
  rw [List.count_cons, if_pos (by decide)]
/-- a text in a longer list of nodes -/
theorem shT_ext {N N' : List Fi} {L : List ByteArray} (h : N <+: N') (HN : ∀ i, i < N.length → okN N i) (HN' : ∀ i, i < N'.length → okN N' i) : ∀ k, k < N.length → ∀ least, shT N' L k least = shT N L k least := by
  obtain ⟨t, rfl⟩ := h
  intro k
  induction k using Nat.strongRecOn with
  | _ k ih =>
    intro hk least
    have hk' : k < (N ++ t).length := by rw [List.length_append]; omega
    have e : (N ++ t).getD k (0, 0, 0, 0) = N.getD k (0, 0, 0, 0) := by
      rw [List.getD_eq_getElem?_getD, List.getElem?_append_left hk, ← List.getD_eq_getElem?_getD]
    have e1 : fo (N ++ t) k = fo N k := by unfold fo; rw [e]
    have e2 : fv (N ++ t) k = fv N k := by unfold fv; rw [e]
    have e3 : fa (N ++ t) k = fa N k := by unfold fa; rw [e]
    have e4 : fb (N ++ t) k = fb N k := by unfold fb; rw [e]
    obtain ⟨⟨o0, o5⟩, _⟩ := ok_node (HN k hk)
    rcases (show fo N k = 0 ∨ fo N k = 1 ∨ fo N k = 2 ∨ fo N k = 3 ∨ fo N k = 4 ∨ fo N k = 5 by omega) with h | h | h | h | h | h
    · rw [shT_0 least h, shT_0 least (e1.trans h)]
    · rw [shT_1 least h, shT_1 least (e1.trans h)]
    · rw [shT_2 least h, shT_2 least (e1.trans h), e2]
    · have ka := kid_a (HN k hk) (by rw [h]; decide)
      rw [shT_3 least HN hk h, shT_3 least HN' hk' (e1.trans h), e3, ih _ ka.2 (by omega)]
    · have ka := kid_a (HN k hk) (by rw [h]; decide)
      have kb := kid_b (HN k hk) (by rw [h]; rfl)
      rw [shT_4 least HN hk h, shT_4 least HN' hk' (e1.trans h), e3, e4, ih _ ka.2 (by omega), ih _ kb.2 (by omega)]
    · have ka := kid_a (HN k hk) (by rw [h]; decide)
      have kb := kid_b (HN k hk) (by rw [h]; rfl)
      rw [shT_5 least HN hk h, shT_5 least HN' hk' (e1.trans h), e3, e4, ih _ ka.2 (by omega), ih _ kb.2 (by omega)]
/-- opening parentheses of a text -/
def c40 (x : List UInt8) : Nat := x.count 40
theorem c40_app (x y : List UInt8) : c40 (x ++ y) = c40 x + c40 y := by unfold c40; exact List.count_append
theorem c40_par (x : List UInt8) : c40 ([40] ++ x ++ [41]) = c40 x + 1 := by
  rw [c40_app, c40_app]
  show 1 + c40 x + 0 = _
  omega
theorem shT_parL (l : List Fi) (L : List ByteArray) (k least : Nat) : shT l L k least = if stg (fo l k) < least then [40] ++ shT l L k 0 ++ [41] else shT l L k 0 := by
  unfold shT
  rw [shF_eq, shF_eq]
  rw [if_neg (Nat.not_lt_zero (stg (fo l k)))]
theorem c40_least (l : List Fi) (L : List ByteArray) (k a b : Nat) (h : a ≤ b) : c40 (shT l L k a) ≤ c40 (shT l L k b) := by
  rw [shT_parL l L k a, shT_parL l L k b]
  split
  · rw [if_pos (by omega)]; exact Nat.le_refl _
  · split
    · rw [c40_par]; omega
    · exact Nat.le_refl _
theorem c40_up (l : List Fi) (L : List ByteArray) (k a b : Nat) : c40 (shT l L k b) ≤ c40 (shT l L k a) + 1 := by
  rw [shT_parL l L k a, shT_parL l L k b]
  split
  · split
    · omega
    · rw [c40_par]; omega
  · split
    · rw [c40_par]; omega
    · omega
theorem stg_sgv (o : Int) : stg o = sgv o := rfl

theorem add_unk {op v : Int} {s u : PSt} (e : add op v s = .ok u) : u.unk = s.unk := by
  unfold add at e
  simp only at e
  repeat' (split at e)
  all_goals first | (injection e with e; subst e; rfl) | (cases e)
theorem add_len {op v : Int} {s u : PSt} (e : add op v s = .ok u) : s.nodes.length ≤ u.nodes.length := by
  unfold add at e
  simp only at e
  repeat' (split at e)
  all_goals first | (injection e with e; subst e; simp) | (cases e)
theorem wrd_mono {L : Tks} {t : List UInt8} {s u : PSt} (e : wrd L t s = .ok u) : (u.unk = false → s.unk = false) ∧ s.nodes.length ≤ u.nodes.length := by
  unfold wrd at e
  split at e
  · exact ⟨fun h => by rw [← add_unk e]; exact h, add_len e⟩
  · split at e
    · exact ⟨fun h => by rw [← add_unk e]; exact h, add_len e⟩
    · have hl := add_len e
      refine ⟨fun h => ?_, hl⟩
      have := add_unk e
      rw [h] at this
      have h2 : (s.unk || decide (ixL L t < 0)) = false := this.symm
      rw [Bool.or_eq_false_iff] at h2
      exact h2.1
/-- what a function keeps: a name that was unknown stays so, and no node goes -/
def Mo (G : Tks → PSt → POut (Tks × PSt)) : Prop := ∀ ts s ts' s', G ts s = .ok (ts', s') → (s'.unk = false → s.unk = false) ∧ s.nodes.length ≤ s'.nodes.length
theorem lp_mo {op : Int} {tok : List UInt8} {G : Tks → PSt → POut (Tks × PSt)} (HG : Mo G) : ∀ m, Mo (lp op tok G m)
  | 0, _, _, _, _, e => by cases e
  | m + 1, ts, s, ts', s', e => by
    rw [lp] at e
    split at e
    · obtain ⟨p, e1, e2⟩ := bind_ok' e
      obtain ⟨u, e3, e4⟩ := bind_ok' e2
      obtain ⟨a1, a2⟩ := HG _ _ _ _ (show G ts.tail s = .ok (p.1, p.2) from e1)
      obtain ⟨b1, b2⟩ := lp_mo HG m _ _ _ _ e4
      have c1 := add_unk e3
      have c2 := add_len e3
      exact ⟨fun h => a1 (by rw [← c1]; exact b1 h), by omega⟩
    · injection e with e
      injection e with e1 e2
      subst e2
      exact ⟨fun h => h, Nat.le_refl _⟩
theorem sq_mo {op : Int} {tok : List UInt8} {G : Tks → PSt → POut (Tks × PSt)} (HG : Mo G) : Mo (sq op tok G) := by
  intro ts s ts' s' e
  unfold sq at e
  obtain ⟨p, e1, e2⟩ := bind_ok' e
  obtain ⟨a1, a2⟩ := HG _ _ _ _ (show G ts s = .ok (p.1, p.2) from e1)
  obtain ⟨b1, b2⟩ := lp_mo HG _ _ _ _ _ e2
  exact ⟨fun h => a1 (b1 h), by omega⟩
theorem rdF_mo (L : Tks) : ∀ n, Mo (rdF L n)
  | 0, _, _, _, _, e => by cases e
  | n + 1, [], _, _, _, e => by cases e
  | n + 1, t :: ts, s, ts', s', e => by
    rw [rdF] at e
    split at e
    · obtain ⟨p, e1, e2⟩ := bind_ok' e
      obtain ⟨u, e3, e4⟩ := bind_ok' e2
      injection e4 with e4
      injection e4 with e4 e5
      subst e5
      obtain ⟨a1, a2⟩ := rdF_mo L n _ _ _ _ (show rdF L n ts s = .ok (p.1, p.2) from e1)
      have c1 := add_unk e3
      have c2 := add_len e3
      exact ⟨fun h => a1 (by rw [← c1]; exact h), by omega⟩
    · split at e
      · obtain ⟨p, e1, e2⟩ := bind_ok' e
        split at e2
        · injection e2 with e2
          injection e2 with e4 e5
          subst e5
          exact sq_mo (sq_mo (rdF_mo L n)) _ _ _ _ (show sq 5 [124, 124] (sq 4 [38, 38] (rdF L n)) ts s = .ok (p.1, p.2) from e1)
        · cases e2
      · split at e
        · cases e
        · obtain ⟨u, e1, e2⟩ := bind_ok' e
          injection e2 with e2
          injection e2 with e4 e5
          subst e5
          exact wrd_mono e1
/-- a state whose nodes are all there -/
structure Ex (ks : List Nat) (s : PSt) : Prop where
  len : s.sizes.length = s.nodes.length
  seg : segW ks s.sizes
  nod : ∀ i, i < s.nodes.length → okN s.nodes i
theorem node_last {N : List Fi} {x : Fi} (HN : ∀ i, i < N.length → okN N i) (h : plN x.1 x.2.1 x.2.2.1 x.2.2.2 = true ∧ opN x.1 x.2.2.1 x.2.2.2 N.length = true) : ∀ i, i < (N ++ [x]).length → okN (N ++ [x]) i := by
  intro i hi
  rw [List.length_append, List.length_singleton] at hi
  by_cases e : i = N.length
  · subst e
    unfold okN fo fv fa fb
    rw [getD_snL]
    exact h
  · exact (okN_sn (by omega)).2 (HN i (by omega))
/-- what one tree more means: k nodes, and at most so many parentheses as its text at level g -/
def Cst (L : List ByteArray) (g : Nat) (ks : List Nat) (s s' : PSt) (ts ts' : Tks) : Prop :=
  ∃ k, Ex (k :: ks) s' ∧ s'.nodes.length = s.nodes.length + k ∧ s.nodes <+: s'.nodes ∧ np ts' + c40 (shT s'.nodes L (s'.nodes.length - 1) g) ≤ np ts
def CP (L : List ByteArray) (g : Nat) (G : Tks → PSt → POut (Tks × PSt)) : Prop := ∀ ts s ks ts' s', G ts s = .ok (ts', s') → s'.nodes.length ≤ 512 → s'.unk = false → Ex ks s → Cst L g ks s s' ts ts'
theorem ex_add1 {ks : List Nat} {k : Nat} {s u : PSt} (h : Ex (k :: ks) s) (e : add 3 0 s = .ok u) (hl : u.nodes.length ≤ 512) : Ex ((k + 1) :: ks) u ∧ u.nodes = s.nodes ++ [(3, 0, ((s.nodes.length - 1 : Nat) : Int), 0)] ∧ 1 ≤ s.nodes.length := by
  have h1 := add_len e
  have hs := h.seg
  have h3 := segW_len hs
  have hlen := h.len
  obtain ⟨u', e', hu, _⟩ := add1_st (op := 3) (v := 0) rfl (s := s) (.inr ⟨h.len, h.seg⟩)
  rw [e] at e'
  injection e' with e'
  subst e'
  unfold add at e
  rw [if_neg (by omega)] at e
  have ha : ar 3 = 1 := rfl
  simp only [ha] at e
  rw [if_neg (by omega), if_neg (by omega), if_pos trivial] at e
  injection e with e
  have hn : u.nodes = s.nodes ++ [(3, 0, ((s.nodes.length - 1 : Nat) : Int), 0)] := by rw [← e]
  refine ⟨⟨?_, ?_, ?_⟩, hn, by omega⟩
  · rw [← e]; simp [hlen]
  · rcases hu with q | ⟨_, q⟩
    · omega
    · exact q
  · rw [hn]
    have p2 : opN 3 ((s.nodes.length - 1 : Nat) : Int) 0 s.nodes.length = true := opN_1 rfl (by omega) (by omega)
    exact node_last h.nod ⟨rfl, p2⟩
theorem ex_add2 {ks : List Nat} {k1 k2 : Nat} {op : Int} (hop : op = 4 ∨ op = 5) {s u : PSt} (h : Ex (k2 :: k1 :: ks) s) (e : add op 0 s = .ok u) (hl : u.nodes.length ≤ 512) :
    Ex ((k1 + k2 + 1) :: ks) u ∧ u.nodes = s.nodes ++ [(op, 0, ((s.nodes.length - k2 - 1 : Nat) : Int), ((s.nodes.length - 1 : Nat) : Int))] ∧ 1 ≤ k2 ∧ 1 ≤ k1 ∧ k1 + k2 ≤ s.nodes.length := by
  have h1 := add_len e
  have hs := h.seg
  have hlen := h.len
  have har : ar op = 2 := by rcases hop with q | q <;> subst q <;> rfl
  obtain ⟨u', e', hu, _⟩ := add2_st (op := op) (v := 0) har (s := s) (.inr ⟨h.len, h.seg⟩)
  rw [e] at e'
  injection e' with e'
  subst e'
  obtain ⟨q1, q2, q3, p1, p2, p3, p4⟩ := hs
  rw [List.length_take] at p2
  rw [hlen] at q3
  unfold add at e
  rw [if_neg (by omega)] at e
  simp only [har] at e
  rw [if_neg (by omega), if_neg (by omega), if_neg (by omega), q3, if_neg (by omega)] at e
  injection e with e
  have e9 : s.nodes.length - 1 - k2 = s.nodes.length - k2 - 1 := by omega
  have hn : u.nodes = s.nodes ++ [(op, 0, ((s.nodes.length - k2 - 1 : Nat) : Int), ((s.nodes.length - 1 : Nat) : Int))] := by rw [← e, e9]
  refine ⟨⟨?_, ?_, ?_⟩, hn, q1, p1, by omega⟩
  · rw [← e]; simp [hlen]
  · rcases hu with q | ⟨_, q⟩
    · omega
    · exact q
  · rw [hn]
    refine node_last h.nod ⟨?_, ?_⟩
    · show plN op 0 ((s.nodes.length - k2 - 1 : Nat) : Int) ((s.nodes.length - 1 : Nat) : Int) = true
      rcases hop with q | q <;> subst q <;> rfl
    · show opN op ((s.nodes.length - k2 - 1 : Nat) : Int) ((s.nodes.length - 1 : Nat) : Int) s.nodes.length = true
      exact opN_2 (by omega) (by omega) (by omega) (by omega)
theorem lp_cp {L : List ByteArray} {op : Int} (hop : op = 4 ∨ op = 5) {G : Tks → PSt → POut (Tks × PSt)} (HM : Mo G) (HG : CP L (sgv op + 1) G) :
    ∀ m ts s k ks ts2 s2, lp op (if op = 4 then [38, 38] else [124, 124]) G m ts s = .ok (ts2, s2) → s2.nodes.length ≤ 512 → s2.unk = false → Ex (k :: ks) s → k ≤ s.nodes.length →
    ∃ k2, Ex (k2 :: ks) s2 ∧ s2.nodes.length + k = s.nodes.length + k2 ∧ s.nodes <+: s2.nodes ∧ np ts2 + c40 (shT s2.nodes L (s2.nodes.length - 1) (sgv op)) ≤ np ts + c40 (shT s.nodes L (s.nodes.length - 1) (sgv op))
  | 0, _, _, _, _, _, _, e, _, _, _, _ => by cases e
  | m + 1, ts, s, k, ks, ts2, s2, e, hl, hu, hx, hk => by
    rw [lp] at e
    by_cases c : ts.head? = some (if op = 4 then [38, 38] else [124, 124])
    rotate_left
    · rw [if_neg c] at e
      injection e with e
      injection e with e1 e2
      subst e1 e2
      exact ⟨k, hx, rfl, List.prefix_refl _, Nat.le_refl _⟩
    rw [if_pos c] at e
    obtain ⟨⟨ts1, s1⟩, e1, e2⟩ := bind_ok' e
    dsimp only at e2
    obtain ⟨u, e3, e4⟩ := bind_ok' e2
    have m1 := lp_mo HM _ _ _ _ _ e4
    have u1 := add_unk e3
    have u2 := add_len e3
    obtain ⟨k1, x1, l1, p1, n1⟩ := HG _ _ (k :: ks) _ _ e1 (by have := m1.2; omega) (by rw [← u1]; exact m1.1 hu) hx
    obtain ⟨x2, n2, g1, g2, g3⟩ := ex_add2 hop x1 e3 (by have := m1.2; omega)
    obtain ⟨k2, x3, l3, p3, n3⟩ := lp_cp hop HM HG m _ _ _ _ _ _ e4 hl hu x2 (by rw [n2, List.length_append, List.length_singleton]; omega)
    have hlu : u.nodes.length = s1.nodes.length + 1 := by rw [n2]; simp
    refine ⟨k2, x3, by omega, (p1.trans (by rw [n2]; exact List.prefix_append _ _)).trans p3, ?_⟩
    have hts : np ts = np ts.tail := by
      cases ts with
      | nil => rfl
      | cons t ts =>
        have ht : t = (if op = 4 then [38, 38] else [124, 124]) := by injection c
        exact np_one t ts (by rw [ht]; rcases hop with q | q <;> subst q <;> decide)
    -- the new node's text
    have hxl : u.nodes.getD s1.nodes.length (0, 0, 0, 0) = (op, 0, ((s1.nodes.length - k1 - 1 : Nat) : Int), ((s1.nodes.length - 1 : Nat) : Int)) := by rw [n2]; exact getD_snL _ _
    have hfo : fo u.nodes s1.nodes.length = op := by unfold fo; rw [hxl]
    have hfa : (fa u.nodes s1.nodes.length).toNat = s.nodes.length - 1 := by unfold fa; rw [hxl]; show ((s1.nodes.length - k1 - 1 : Nat) : Int).toNat = _; omega
    have hfb : (fb u.nodes s1.nodes.length).toNat = s1.nodes.length - 1 := by unfold fb; rw [hxl]; show ((s1.nodes.length - 1 : Nat) : Int).toNat = _; omega
    have hpu : s1.nodes <+: u.nodes := by rw [n2]; exact List.prefix_append _ _
    have ea := fun least => shT_ext (L := L) (p1.trans hpu) hx.nod x2.nod (s.nodes.length - 1) (by omega) least
    have eb := fun least => shT_ext (L := L) hpu x1.nod x2.nod (s1.nodes.length - 1) (by omega) least
    have htx : c40 (shT u.nodes L s1.nodes.length (sgv op)) = c40 (shT s.nodes L (s.nodes.length - 1) (sgv op)) + c40 (shT s1.nodes L (s1.nodes.length - 1) (sgv op + 1)) := by
      rcases hop with q | q
      · subst q
        rw [shT_4 (sgv 4) x2.nod (by omega) hfo, if_neg (by decide), hfa, hfb, ea, eb, c40_app, c40_app]
        show c40 _ + 0 + c40 _ = _
        rfl
      · subst q
        rw [shT_5 (sgv 5) x2.nod (by omega) hfo, if_neg (by decide), hfa, hfb, ea, eb, c40_app, c40_app]
        show c40 _ + 0 + c40 _ = _
        rfl
    rw [hlu, Nat.add_sub_cancel, htx] at n3
    omega
theorem sq_cp {L : List ByteArray} {op : Int} (hop : op = 4 ∨ op = 5) {G : Tks → PSt → POut (Tks × PSt)} (HM : Mo G) (HG : CP L (sgv op + 1) G) : CP L (sgv op) (sq op (if op = 4 then [38, 38] else [124, 124]) G) := by
  intro ts s ks ts' s' e hl hu hx
  unfold sq at e
  obtain ⟨⟨ts1, s1⟩, e1, e2⟩ := bind_ok' e
  dsimp only at e2
  have m1 := lp_mo HM _ _ _ _ _ e2
  obtain ⟨k1, x1, l1, p1, n1⟩ := HG _ _ ks _ _ e1 (by have := m1.2; omega) (m1.1 hu) hx
  obtain ⟨k2, x3, l3, p3, n3⟩ := lp_cp hop HM HG _ _ _ _ _ _ _ e2 hl hu x1 (by omega)
  have := c40_least s1.nodes L (s1.nodes.length - 1) (sgv op) (sgv op + 1) (by omega)
  exact ⟨k2, x3, by omega, p1.trans p3, by omega⟩
theorem ex_add0 {ks : List Nat} {op v : Int} (har : ar op = 0) (hpl : plN op v 0 0 = true) {s u : PSt} (h : Ex ks s) (e : add op v s = .ok u) (hl : u.nodes.length ≤ 512) : Ex (1 :: ks) u ∧ u.nodes = s.nodes ++ [(op, v, 0, 0)] := by
  have h1 := add_len e
  have hlen := h.len
  obtain ⟨u', e', hu, _⟩ := add0_st (op := op) (v := v) har (s := s) (.inr ⟨h.len, h.seg⟩)
  rw [e] at e'
  injection e' with e'
  subst e'
  unfold add at e
  rw [if_neg (by omega)] at e
  simp only [har, if_true] at e
  injection e with e
  have hn : u.nodes = s.nodes ++ [(op, v, 0, 0)] := by rw [← e]
  refine ⟨⟨?_, ?_, ?_⟩, hn⟩
  · rw [← e]; simp [hlen]
  · rcases hu with q | ⟨_, q⟩
    · omega
    · exact q
  · rw [hn]
    exact node_last h.nod ⟨hpl, by show opN op 0 0 _ = true; unfold opN; rw [har]; rfl⟩
/-- the names are words -/
def NmA (L : List ByteArray) : Prop := L.length ≤ 64 ∧ ∀ v, v < L.length → NmW L v
theorem c40_word {b : UInt8} {x : List UInt8} (hb : lt8 b = true) (hx : ∀ c ∈ x, (lt8 c || dg8 c) = true) : c40 (b :: x) = 0 := by
  unfold c40
  rw [List.count_eq_zero]
  have hd : ∀ c : UInt8, (lt8 c || dg8 c) = true → c ≠ 40 := by
    intro c
    obtain ⟨⟨n⟩⟩ := c
    revert n
    decide +kernel
  intro h
  rcases List.mem_cons.1 h with q | q
  · exact hd b (by rw [hb]; rfl) q.symm
  · exact hd 40 (hx 40 q) rfl
theorem ixL_lt {L : Tks} {t : List UInt8} (h : ¬ ixL L t < 0) : ixL L t < (L.length : Int) := by
  unfold ixL at *
  split at *
  · rename_i k hk
    have := (List.findIdx?_eq_some_iff_findIdx_eq.1 hk).1
    omega
  · omega
theorem wrd_cp {L : List ByteArray} (HL : NmA L) {t : List UInt8} {s u : PSt} {ks : List Nat} (e : wrd (L8 L) t s = .ok u) (hl : u.nodes.length ≤ 512) (hu : u.unk = false) (hx : Ex ks s) : Ex (1 :: ks) u ∧ u.nodes.length = s.nodes.length + 1 ∧ s.nodes <+: u.nodes ∧ c40 (shT u.nodes L (u.nodes.length - 1) 3) = 0 := by
  have fin : ∀ op v : Int, op = 0 ∨ op = 1 ∨ (op = 2 ∧ 0 ≤ v ∧ v < (L.length : Int)) → (op ≠ 2 → v = 0) → ∀ s : PSt, Ex ks s → add op v s = .ok u → Ex (1 :: ks) u ∧ u.nodes.length = s.nodes.length + 1 ∧ s.nodes <+: u.nodes ∧ c40 (shT u.nodes L (u.nodes.length - 1) 3) = 0 := by
    intro op v hop hv s hx e
    have h64 := HL.1
    have har : ar op = 0 := by rcases hop with q | q | q <;> (first | subst q | (rw [q.1])) <;> rfl
    have hv0 : 0 ≤ v ∧ v < 64 ∧ (op = 2 ∨ v = 0) := by
      rcases hop with q | q | ⟨q, q1, q2⟩
      · have := hv (by omega); omega
      · have := hv (by omega); omega
      · omega
    have hpl : plN op v 0 0 = true := by
      unfold plN
      simp only [Bool.and_eq_true, Bool.or_eq_true, decide_eq_true_eq, har]
      refine ⟨⟨⟨⟨⟨⟨by omega, by omega⟩, by omega⟩, by omega⟩, hv0.2.2⟩, .inr trivial⟩, .inr trivial⟩
    obtain ⟨x, n⟩ := ex_add0 har hpl hx e hl
    have hle : u.nodes.length = s.nodes.length + 1 := by rw [n]; simp
    have hxl : u.nodes.getD s.nodes.length (0, 0, 0, 0) = (op, v, 0, 0) := by rw [n]; exact getD_snL _ _
    have hfo : fo u.nodes s.nodes.length = op := by unfold fo; rw [hxl]
    have hfv : fv u.nodes s.nodes.length = v := by unfold fv; rw [hxl]
    refine ⟨x, hle, by rw [n]; exact List.prefix_append _ _, ?_⟩
    rw [hle, Nat.add_sub_cancel]
    rcases hop with q | q | ⟨q, q1, q2⟩
    · rw [shT_0 3 (hfo.trans q), if_neg (by decide)]; rfl
    · rw [shT_1 3 (hfo.trans q), if_neg (by decide)]; rfl
    · rw [shT_2 3 (hfo.trans q), if_neg (by decide), hfv]
      obtain ⟨⟨b, y, e1, e2, e3⟩, _⟩ := HL.2 v.toNat (by omega)
      rw [e1]
      exact c40_word e2 e3
  unfold wrd at e
  split at e
  · exact fin 1 0 (.inr (.inl rfl)) (fun _ => rfl) s hx e
  · split at e
    · exact fin 0 0 (.inl rfl) (fun _ => rfl) s hx e
    · have h1 := add_unk e
      rw [hu] at h1
      have h2 : (s.unk || decide (ixL (L8 L) t < 0)) = false := h1.symm
      rw [Bool.or_eq_false_iff, decide_eq_false_iff_not] at h2
      have h3 := ixL_lt h2.2
      have h4 : (L8 L).length = L.length := by unfold L8; simp
      exact fin 2 _ (.inr (.inr ⟨rfl, by omega, by omega⟩)) (fun q => absurd rfl q) { s with unk := s.unk || decide (ixL (L8 L) t < 0) } ⟨hx.len, hx.seg, hx.nod⟩ e
theorem rdF_cp {L : List ByteArray} (HL : NmA L) : ∀ n, CP L 3 (rdF (L8 L) n)
  | 0, _, _, _, _, _, e, _, _, _ => by cases e
  | n + 1, [], _, _, _, _, e, _, _, _ => by cases e
  | n + 1, t :: ts, s, ks, ts', s', e, hl, hu, hx => by
    rw [rdF] at e
    by_cases h1 : t = [33]
    · subst h1
      rw [if_pos rfl] at e
      obtain ⟨⟨ts1, s1⟩, e1, e2⟩ := bind_ok' e
      dsimp only at e2
      obtain ⟨u, e3, e4⟩ := bind_ok' e2
      injection e4 with e4
      injection e4 with e4 e5
      have u1 := add_unk e3
      have u2 := add_len e3
      subst e4 e5
      obtain ⟨k1, x1, l1, p1, n1⟩ := rdF_cp HL n _ _ ks _ _ e1 (by omega) (by rw [← u1]; exact hu) hx
      obtain ⟨x2, n2, g1⟩ := ex_add1 x1 e3 hl
      have hlu : u.nodes.length = s1.nodes.length + 1 := by rw [n2]; simp
      have hpu : s1.nodes <+: u.nodes := by rw [n2]; exact List.prefix_append _ _
      have hxl : u.nodes.getD s1.nodes.length (0, 0, 0, 0) = (3, 0, ((s1.nodes.length - 1 : Nat) : Int), 0) := by rw [n2]; exact getD_snL _ _
      have hfo : fo u.nodes s1.nodes.length = 3 := by unfold fo; rw [hxl]
      have hfa : (fa u.nodes s1.nodes.length).toNat = s1.nodes.length - 1 := by unfold fa; rw [hxl]; show ((s1.nodes.length - 1 : Nat) : Int).toNat = _; omega
      refine ⟨k1 + 1, x2, by omega, p1.trans hpu, ?_⟩
      rw [hlu, Nat.add_sub_cancel, shT_3 3 x2.nod (by omega) hfo, if_neg (by decide), hfa, shT_ext hpu x1.nod x2.nod (s1.nodes.length - 1) (by omega), c40_app, np_one [33] ts (by decide)]
      show np ts1 + (0 + _) ≤ _
      omega
    rw [if_neg h1] at e
    by_cases h2 : t = [40]
    · subst h2
      rw [if_pos rfl] at e
      obtain ⟨⟨ts1, s1⟩, e1, e2⟩ := bind_ok' e
      dsimp only at e2
      split at e2
      · rename_i hh
        injection e2 with e2
        injection e2 with e4 e5
        subst e5
        have HE : CP L 1 (sq 5 [124, 124] (sq 4 [38, 38] (rdF (L8 L) n))) := sq_cp (op := 5) (.inr rfl) (sq_mo (rdF_mo _ n)) (sq_cp (op := 4) (.inl rfl) (rdF_mo _ n) (rdF_cp HL n))
        obtain ⟨k1, x1, l1, p1, n1⟩ := HE _ _ ks _ _ e1 hl hu hx
        refine ⟨k1, x1, l1, p1, ?_⟩
        have := c40_up s1.nodes L (s1.nodes.length - 1) 1 3
        rw [np_par]
        have h9 : np ts1 = np ts' := by
          cases ts1 with
          | nil => cases hh
          | cons a b =>
            injection hh with hh
            subst hh
            rw [← e4]
            exact np_one _ _ (by decide)
        omega
      · cases e2
    rw [if_neg h2] at e
    split at e
    · cases e
    · obtain ⟨u, e1, e2⟩ := bind_ok' e
      injection e2 with e2
      injection e2 with e4 e5
      subst e4 e5
      obtain ⟨x, l1, p1, n1⟩ := wrd_cp HL e1 hl hu hx
      refine ⟨1, x, l1, p1, ?_⟩
      rw [n1, np_one t ts h2]
      exact Nat.le_refl _

/-! ### Bytes -/
theorem mem_tw {p : UInt8 → Bool} : ∀ {r : List UInt8} {b : UInt8}, b ∈ r.takeWhile p → p b = true
  | [], b, h => by cases h
  | c :: r, b, h => by
    rw [List.takeWhile_cons] at h
    split at h
    · rcases List.mem_cons.1 h with q | q
      · subst q; assumption
      · exact mem_tw q
    · cases h
theorem nxt_split {r t r' : List UInt8} (h : nxt r = some (t, r')) : ∃ B, (∀ b ∈ B, blk8 b = true) ∧ r = B ++ (t ++ r') := by
  unfold nxt at h
  simp only at h
  rw [Option.map_eq_some_iff] at h
  obtain ⟨n, hn, e⟩ := h
  injection e with e1 e2
  refine ⟨r.takeWhile blk8, fun b hb => mem_tw hb, ?_⟩
  rw [← e1, ← e2, List.take_append_drop, List.takeWhile_append_dropWhile]

end Go.Proofs.YtignkplogkaigaaDoor

/-! A printed text without one of its pairs of parentheses is no expression of the same formula. -/
namespace Go.Proofs.YtignkplogkaigaaDoor
set_option linter.unusedVariables false
set_option linter.unusedSimpArgs false

theorem lt_no {b : UInt8} (h : (lt8 b || dg8 b) = true) : b ≠ 40 ∧ b ≠ 41 := by
  have : ∀ b : UInt8, (lt8 b || dg8 b) = true → b ≠ 40 ∧ b ≠ 41 := by
    intro b
    obtain ⟨⟨n⟩⟩ := b
    revert n
    decide +kernel
  exact this b h
theorem c40_none {x : List UInt8} (h : ∀ b ∈ x, b ≠ 40) : c40 x = 0 := by
  unfold c40
  rw [List.count_eq_zero]
  exact fun q => h 40 q rfl
theorem c40_blk {x : List UInt8} (h : ∀ b ∈ x, blk8 b = true) : c40 x = 0 :=
  c40_none fun b hb q => by have := h b hb; rw [q] at this; cases this
/-- a token is a parenthesis or has none -/
theorem tk_c40 {r : List UInt8} {n : Nat} (h : tkN r = some n) : (r.take n = [] → r = []) ∧ c40 (r.take n) = if r.take n = [40] then 1 else 0 := by
  cases r with
  | nil =>
    injection h with h
    subst h
    exact ⟨fun _ => rfl, rfl⟩
  | cons b t =>
    unfold tkN at h
    simp only at h
    split at h
    · rename_i q
      injection h with h
      subst h
      cases t with
      | nil => cases q.2
      | cons c u =>
        have : c = 38 := by injection q.2
        rw [q.1, this]
        exact ⟨fun e => (by cases e), rfl⟩
    split at h
    · rename_i q
      injection h with h
      subst h
      cases t with
      | nil => cases q.2
      | cons c u =>
        have : c = 124 := by injection q.2
        rw [q.1, this]
        exact ⟨fun e => (by cases e), rfl⟩
    split at h
    · rename_i q
      injection h with h
      subst h
      refine ⟨fun e => (by cases e), ?_⟩
      rcases q with q | q | q <;> rw [q] <;> rfl
    split at h
    · rename_i q
      injection h with h
      subst h
      have e : (b :: t).take (wlN (b :: t)) = b :: t.takeWhile (fun c => lt8 c || dg8 c) := by
        have ew : wlN (b :: t) = 1 + (t.takeWhile (fun c => lt8 c || dg8 c)).length := if_pos q
        rw [ew, Nat.add_comm, List.take_succ_cons]
        congr 1
        exact (List.prefix_iff_eq_take.1 (List.takeWhile_prefix _)).symm
      rw [e]
      refine ⟨fun e => (by cases e), ?_⟩
      have hb := (lt_no (b := b) (by rw [q]; rfl)).1
      rw [if_neg (by intro z; injection z with z; exact hb z)]
      exact c40_word q (fun c hc => mem_tw (p := fun c => lt8 c || dg8 c) hc)
    · cases h
theorem nxt_c40 {r t r' : List UInt8} (h : nxt r = some (t, r')) : c40 r = (if t = [40] then 1 else 0) + c40 r' ∧ (t = [] → r' = []) := by
  obtain ⟨B, hB, e⟩ := nxt_split h
  unfold nxt at h
  simp only at h
  rw [Option.map_eq_some_iff] at h
  obtain ⟨n, hn, e2⟩ := h
  injection e2 with e3 e4
  obtain ⟨a1, a2⟩ := tk_c40 hn
  rw [e3] at a1 a2
  refine ⟨?_, fun q => ?_⟩
  · rw [e, c40_app, c40_app, c40_blk hB, a2]
    omega
  · rw [← e4, a1 q]
    simp
/-- the parentheses of the tokens are those of the text -/
theorem np_c40 : ∀ (ts : Tks) (r : List UInt8), Tk ts r → np ts = c40 r
  | [], r, h => by
    have := (nxt_c40 (show nxt r = some ([], []) from h)).1
    rw [this]
    rfl
  | t :: ts, r, ⟨hne, r', hx, hk⟩ => by
    rw [(nxt_c40 hx).1, ← np_c40 ts r' hk]
    by_cases q : t = [40]
    · rw [if_pos q, q, np_par]; omega
    · rw [if_neg q, np_one t ts q]; omega
theorem awt_rest {op : Int} {s u : PSt} (e : awt op s = .ok u) : u.rest = s.rest := by
  unfold awt at e
  obtain ⟨a, e1, e2⟩ := bind_ok' e
  injection e2 with e2
  rw [← e2]
  have := app_rest op _ _ _ e1
  exact this
/-- what has been read to its end consists of tokens -/
theorem pr_lex (L : Tks) : ∀ n s s', s.rest.length < n → (prE L s = .ok s' → ∃ ts, Tk ts s.rest) ∧ (prO L s = .ok s' → ∃ ts, Tk ts s.rest)
  | 0, _, _, h => by omega
  | n + 1, s, s', h => by
    rcases hx : nxt s.rest with _ | ⟨t, r⟩
    · exact ⟨fun e => (by rw [prE_none hx] at e; cases e), fun e => (by rw [prO_none hx] at e; cases e)⟩
    have stp : t ≠ [] → ∀ u : PSt, u.rest = r → (prE L u = .ok s' ∨ prO L u = .ok s') → ∃ ts, Tk ts s.rest := fun hne u hu hq => by
      have hlt := nxt_lt hx hne
      have ih := pr_lex L n u s' (by rw [hu]; omega)
      rw [hu] at ih
      obtain ⟨ts, hk⟩ : ∃ ts, Tk ts r := by
        rcases hq with q | q
        · exact ih.1 q
        · exact ih.2 q
      exact ⟨t :: ts, hne, r, hx, hk⟩
    refine ⟨fun e => ?_, fun e => ?_⟩
    · by_cases h1 : t = [33]
      · subst h1
        rw [prE_not hx] at e
        exact stp (by simp) _ rfl (.inl e)
      by_cases h2 : t = [40]
      · subst h2
        rw [prE_par hx] at e
        exact stp (by simp) _ rfl (.inl e)
      by_cases h3 : t = [38, 38] ∨ t = [124, 124] ∨ t = [41] ∨ t = []
      · rw [prE_syn hx h3] at e; cases e
      rw [prE_wrd hx h1 h2 h3] at e
      obtain ⟨u, e1, e2⟩ := bind_ok' e
      exact stp (fun q => h3 (.inr (.inr (.inr q)))) u (wrd_rest e1) (.inr e2)
    · by_cases h1 : t = [41]
      · subst h1
        rw [prO_par hx] at e
        obtain ⟨u, e1, e2⟩ := bind_ok' e
        split at e2
        · cases e2
        · have hr : u.rest = r := app_rest 5 _ _ _ e1
          exact stp (by simp) { u with wait := u.wait.take (u.wait.length - 1) } hr (.inr e2)
      have hbin : ∀ op : Int, op = 4 ∨ op = 5 → t = (if op = 4 then [38, 38] else [124, 124]) → ∃ ts, Tk ts s.rest := fun op hop q => by
        rw [prO_bin hop (by rw [← q]; exact hx)] at e
        obtain ⟨u, e1, e2⟩ := bind_ok' e
        exact stp (by rw [q]; rcases hop with z | z <;> subst z <;> decide) u (awt_rest e1) (.inl e2)
      by_cases h2 : t = [38, 38]
      · exact hbin 4 (.inl rfl) h2
      by_cases h3 : t = [124, 124]
      · exact hbin 5 (.inr rfl) h3
      by_cases h4 : t = []
      · subst h4
        exact ⟨[], by show nxt s.rest = _; rw [hx, (nxt_c40 hx).2 rfl]⟩
      rw [prO_syn hx h1 h2 h3 h4] at e
      cases e
theorem prs_lex {L : Tks} {r : List UInt8} {st : PSt} (h : prs L r = .ok st) : ∃ ts, Tk ts r := by
  rw [prs_E] at h
  exact (pr_lex L (r.length + 1) _ _ (Nat.lt_succ_self _)).1 h
/-- an expression has at least the parentheses of its formula's text -/
theorem paren_le {L : List ByteArray} (HL : NmA L) {r : List UInt8} {st : PSt} (h : prs (L8 L) r = .ok st) (hu : st.unk = false) (hl : st.nodes.length ≤ 512) : c40 (shT st.nodes L (st.nodes.length - 1) 0) ≤ c40 r := by
  obtain ⟨ts, hk⟩ := prs_lex h
  rw [prs_rd (L8 L) hk] at h
  rw [← np_c40 ts r hk]
  have HE : CP L 1 (rdE (L8 L) (ts.length + 1)) := sq_cp (op := 5) (.inr rfl) (sq_mo (rdF_mo _ _)) (sq_cp (op := 4) (.inl rfl) (rdF_mo _ _) (rdF_cp HL _))
  rcases e : rdE (L8 L) (ts.length + 1) ts stZ with ⟨ts', s'⟩ | _ | _
  · rw [e] at h
    dsimp only at h
    split at h
    · injection h with h
      subst h
      obtain ⟨k, x, l, p, n⟩ := HE ts stZ [] ts' s' e hl hu ⟨rfl, rfl, fun i hi => by cases hi⟩
      rw [shT_01]
      exact Nat.le_trans (Nat.le_add_left _ _) n
    · cases h
  · rw [e] at h; cases h
  · rw [e] at h; cases h

/-! ### Pairs -/
def c41 (x : List UInt8) : Nat := x.count 41
theorem c41_app (x y : List UInt8) : c41 (x ++ y) = c41 x + c41 y := by unfold c41; exact List.count_append
def nt (x : List UInt8) : Int := (c40 x : Int) - (c41 x : Int)
theorem nt_app (x y : List UInt8) : nt (x ++ y) = nt x + nt y := by unfold nt; rw [c40_app, c41_app]; omega
theorem nt_cons (b : UInt8) (x : List UInt8) : nt (b :: x) = (if b = 40 then 1 else if b = 41 then -1 else 0) + nt x := by
  unfold nt c40 c41
  rw [List.count_cons, List.count_cons]
  by_cases h : b = 40
  · subst h
    rw [if_pos (by decide), if_neg (by decide), if_pos rfl]
    omega
  · rw [if_neg (by simpa using h), if_neg h]
    by_cases h2 : b = 41
    · subst h2
      rw [if_pos (by decide), if_pos rfl]
      omega
    · rw [if_neg (by simpa using h2), if_neg h2]
      omega
theorem pre_app {y : List UInt8} : ∀ {x p : List UInt8}, p <+: x ++ y → p <+: x ∨ ∃ z, p = x ++ z ∧ z <+: y
  | [], p, h => .inr ⟨p, rfl, h⟩
  | a :: x, [], h => .inl (List.nil_prefix)
  | a :: x, b :: p, h => by
    rw [List.cons_append, List.cons_prefix_cons] at h
    obtain ⟨e, h⟩ := h
    subst e
    rcases pre_app h with q | ⟨z, q1, q2⟩
    · exact .inl (List.cons_prefix_cons.2 ⟨rfl, q⟩)
    · exact .inr ⟨z, by rw [q1]; rfl, q2⟩
/-- balanced -/
def Bl (x : List UInt8) : Prop := nt x = 0 ∧ ∀ p, p <+: x → 0 ≤ nt p
theorem Bl.app {x y : List UInt8} (hx : Bl x) (hy : Bl y) : Bl (x ++ y) := by
  refine ⟨by rw [nt_app, hx.1, hy.1]; rfl, fun p hp => ?_⟩
  rcases pre_app hp with q | ⟨z, q1, q2⟩
  · exact hx.2 p q
  · rw [q1, nt_app, hx.1]
    have := hy.2 z q2
    omega
theorem Bl.none {x : List UInt8} (h : ∀ b ∈ x, b ≠ 40 ∧ b ≠ 41) : Bl x := by
  have h0 : ∀ p : List UInt8, (∀ b ∈ p, b ≠ 40 ∧ b ≠ 41) → nt p = 0 := by
    intro p
    induction p with
    | nil => intro _; rfl
    | cons b p ih =>
      intro hp
      obtain ⟨h1, h2⟩ := hp b (by simp)
      rw [nt_cons, if_neg h1, if_neg h2, ih (fun c hc => hp c (by simp [hc]))]
      rfl
  refine ⟨h0 x h, fun p hp => ?_⟩
  rw [h0 p (fun b hb => h b (hp.subset hb))]
  exact Int.le_refl 0
theorem Bl.par {x : List UInt8} (h : Bl x) : Bl ([40] ++ x ++ [41]) := by
  refine ⟨by rw [nt_app, nt_app, h.1]; rfl, fun p hp => ?_⟩
  cases p with
  | nil => exact Int.le_refl 0
  | cons b p =>
    rw [List.append_assoc, List.singleton_append, List.cons_prefix_cons] at hp
    obtain ⟨e, hp⟩ := hp
    subst e
    rw [nt_cons, if_pos rfl]
    rcases pre_app hp with q | ⟨z, q1, q2⟩
    · have := h.2 p q
      omega
    · rw [q1, nt_app, h.1]
      have : z = [] ∨ z = [41] := by
        cases z with
        | nil => exact .inl rfl
        | cons a z =>
          rw [List.cons_prefix_cons] at q2
          obtain ⟨e, q2⟩ := q2
          have := List.prefix_nil.1 q2
          subst e this
          exact .inr rfl
      rcases this with q | q <;> subst q <;> decide

/-- where the pair closes that is open to depth d -/
def cl : Nat → List UInt8 → Option Nat
  | _, [] => none
  | d, b :: x => if b = 40 then (cl (d + 1) x).map (· + 1) else if b = 41 then (if d = 1 then some 0 else (cl (d - 1) x).map (· + 1)) else (cl d x).map (· + 1)
theorem cl_ex : ∀ (x : List UInt8) (d : Nat), 1 ≤ d → (d : Int) + nt x ≤ 0 → ∃ j, cl d x = some j ∧ x[j]? = some 41
  | [], d, h, h0 => by
    have : nt [] = 0 := rfl
    omega
  | b :: x, d, h, h0 => by
    rw [nt_cons] at h0
    rw [cl]
    by_cases h1 : b = 40
    · rw [if_pos h1] at h0
      rw [if_pos h1]
      obtain ⟨j, e1, e2⟩ := cl_ex x (d + 1) (by omega) (by omega)
      exact ⟨j + 1, by rw [e1]; rfl, by simpa using e2⟩
    rw [if_neg h1] at h0
    rw [if_neg h1]
    by_cases h2 : b = 41
    · rw [if_pos h2] at h0
      rw [if_pos h2]
      by_cases h3 : d = 1
      · rw [if_pos h3]
        exact ⟨0, rfl, by simp [h2]⟩
      · rw [if_neg h3]
        obtain ⟨j, e1, e2⟩ := cl_ex x (d - 1) (by omega) (by omega)
        exact ⟨j + 1, by rw [e1]; rfl, by simpa using e2⟩
    · rw [if_neg h2] at h0
      rw [if_neg h2]
      obtain ⟨j, e1, e2⟩ := cl_ex x d h (by omega)
      exact ⟨j + 1, by rw [e1]; rfl, by simpa using e2⟩
/-- the text without the pair that opens at i -/
def rmv (s : List UInt8) (i j : Nat) : List UInt8 := s.take i ++ (s.drop (i + 1)).take j ++ s.drop (i + 1 + j + 1)
theorem rm_ok {s : List UInt8} (h : Bl s) {i : Nat} (hi : s[i]? = some 40) : ∃ j, cl 1 (s.drop (i + 1)) = some j ∧ i + 1 + j < s.length ∧ c40 (rmv s i j) + 1 = c40 s := by
  have hil : i < s.length := (List.getElem?_eq_some_iff.1 hi).1
  have e : s = s.take i ++ 40 :: s.drop (i + 1) := by
    have := (List.getElem?_eq_some_iff.1 hi).2
    conv => lhs; rw [← List.take_append_drop i s, List.drop_eq_getElem_cons hil, this]
  have n1 := h.1
  have n2 := h.2 (s.take i) (List.take_prefix _ _)
  rw [e, nt_app, nt_cons, if_pos rfl] at n1
  have e1 : (s.take i).take i = s.take i := by rw [List.take_take, Nat.min_self]
  obtain ⟨j, c1, c2⟩ := cl_ex (s.drop (i + 1)) 1 (by omega) (by omega)
  have hj : j < (s.drop (i + 1)).length := (List.getElem?_eq_some_iff.1 c2).1
  have e2 : s.drop (i + 1) = (s.drop (i + 1)).take j ++ 41 :: s.drop (i + 1 + j + 1) := by
    have := (List.getElem?_eq_some_iff.1 c2).2
    conv => lhs; rw [← List.take_append_drop j (s.drop (i + 1)), List.drop_eq_getElem_cons hj, this]
    rw [List.drop_drop, Nat.add_assoc (i + 1) j 1]
  refine ⟨j, c1, by rw [List.length_drop] at hj; omega, ?_⟩
  have e3 : c40 s = c40 (s.take i) + (1 + (c40 ((s.drop (i + 1)).take j) + (0 + c40 (s.drop (i + 1 + j + 1))))) := by
    conv => lhs; rw [e, c40_app]
    congr 1
    rw [show ∀ y : List UInt8, c40 (40 :: y) = 1 + c40 y from fun y => by rw [← List.singleton_append, c40_app]; rfl]
    congr 1
    conv => lhs; rw [e2, c40_app]
    congr 1
    rw [show ∀ y : List UInt8, c40 (41 :: y) = 0 + c40 y from fun y => by rw [← List.singleton_append, c40_app]; rfl]
  unfold rmv
  rw [c40_app, c40_app, e3]
  omega
/-- printed texts are balanced -/
theorem bl_txt {l : List Fi} {L : List ByteArray} {m : Nat} (HN : ∀ i, i < m → okN l i) (HV : ∀ k, k < m → fo l k = 2 → NmW L (fv l k).toNat) : ∀ k, k < m → ∀ least, Bl (shT l L k least) := by
  intro k
  induction k using Nat.strongRecOn with
  | _ k ih =>
    intro hk least
    obtain ⟨⟨o0, o5⟩, _⟩ := ok_node (HN k hk)
    have par : ∀ (body : List UInt8) (c : Prop) [Decidable c], Bl body → Bl (if c then [40] ++ body ++ [41] else body) := by
      intro body c _ hb
      split
      · exact hb.par
      · exact hb
    rcases (show fo l k = 0 ∨ fo l k = 1 ∨ fo l k = 2 ∨ fo l k = 3 ∨ fo l k = 4 ∨ fo l k = 5 by omega) with h | h | h | h | h | h
    · rw [shT_0 least h]
      exact par _ _ (Bl.none (by decide))
    · rw [shT_1 least h]
      exact par _ _ (Bl.none (by decide))
    · obtain ⟨⟨b, x, e, hb, hx⟩, _⟩ := HV k hk h
      rw [shT_2 least h, e]
      exact par _ _ (Bl.none (fun c hc => by
        rcases List.mem_cons.1 hc with q | q
        · subst q; exact lt_no (by rw [hb]; rfl)
        · exact lt_no (hx c q)))
    · have ka := kid_a (HN k hk) (by rw [h]; decide)
      rw [shT_3 least HN hk h]
      exact par _ _ ((Bl.none (x := [33]) (by decide)).app (ih _ ka.2 (by omega) 3))
    · have ka := kid_a (HN k hk) (by rw [h]; decide)
      have kb := kid_b (HN k hk) (by rw [h]; rfl)
      rw [shT_4 least HN hk h]
      exact par _ _ (((ih _ ka.2 (by omega) 2).app (Bl.none (x := [32, 38, 38, 32]) (by decide))).app (ih _ kb.2 (by omega) 3))
    · have ka := kid_a (HN k hk) (by rw [h]; decide)
      have kb := kid_b (HN k hk) (by rw [h]; rfl)
      rw [shT_5 least HN hk h]
      exact par _ _ (((ih _ ka.2 (by omega) 1).app (Bl.none (x := [32, 124, 124, 32]) (by decide))).app (ih _ kb.2 (by omega) 2))
/-- without a pair the text is no expression of the formula -/
theorem paren_no {l : List Fi} {L : List ByteArray} (h : okF l) (HL : NmA L) (HV : ∀ k, k < l.length → fo l k = 2 → fv l k < (L.length : Int)) {i : Nat} (hi : (shT l L (l.length - 1) 0)[i]? = some 40) :
    ∃ j, cl 1 ((shT l L (l.length - 1) 0).drop (i + 1)) = some j ∧ i + 1 + j < (shT l L (l.length - 1) 0).length ∧ ∀ st, prs (L8 L) (rmv (shT l L (l.length - 1) 0) i j) = .ok st → st.unk = false → st.nodes ≠ poF l := by
  have h1 := h.1
  have HW : ∀ k, k < l.length → fo l k = 2 → NmW L (fv l k).toNat := fun k hk e => by
    have := (ok_node (h.2.2.1 k hk)).2.1
    have := HV k hk e
    exact HL.2 _ (by omega)
  obtain ⟨j, c1, c2, c3⟩ := rm_ok (bl_txt h.2.2.1 HW (l.length - 1) (by omega) 0) hi
  refine ⟨j, c1, c2, fun st e hu hn => ?_⟩
  have := paren_le HL e hu (by rw [hn]; exact poF_len h)
  rw [hn, poF_text h] at this
  omega

end Go.Proofs.YtignkplogkaigaaDoor

/-! Made's conditions; the fixed names are words. -/
namespace Go.Proofs.YtignkplogkaigaaDoor
set_option linter.unusedVariables false
set_option linter.unusedSimpArgs false

def VrI (n : Nat) (N : List Fi) : Prop := ∀ x ∈ N, x.1 = 2 → x.2.1 < (n : Int)
theorem VrI.snoc {n : Nat} {N : List Fi} {y : Fi} (h : VrI n N) (hy : y.1 = 2 → y.2.1 < (n : Int)) : VrI n (N ++ [y]) := by
  intro x hx h2
  rcases List.mem_append.1 hx with q | q
  · exact h x q h2
  · rw [List.mem_singleton] at q
    subst q
    exact hy h2
theorem mdS_vr {n x : Nat} (hn : 1 ≤ n) {s : List Fi × List Nat} (h : VrI n s.1) : VrI n (mdS n x s).1 := by
  unfold mdS
  simp only
  split
  · exact h.snoc (fun e => by
      have : ((4 + x % 8 % 2 : Nat) : Int) = 2 := e
      omega)
  · split
    · exact h.snoc (fun e => by cases e)
    · split
      · exact h.snoc (fun e => by
          have : ((x % 2 : Nat) : Int) = 2 := e
          omega)
      · refine h.snoc (fun e => ?_)
        show ((x / 8 % n : Nat) : Int) < (n : Int)
        have := Nat.mod_lt (x / 8) hn
        omega
theorem fold_vr {n : Nat} (hn : 1 ≤ n) : ∀ (l : List Nat) (s : List Fi × List Nat), VrI n s.1 → VrI n (l.foldl (fun s x => mdS n x s) s).1
  | [], s, h => h
  | x :: l, s, h => fold_vr hn l _ (mdS_vr hn h)
theorem join_vr {n : Nat} : ∀ (j : Nat) (s : List Fi × List Nat), VrI n s.1 → VrI n (mdJ j s).1
  | 0, s, h => h
  | j + 1, s, h => by
    unfold mdJ
    split
    · exact join_vr j _ (h.snoc (fun e => by cases e))
    · exact h
theorem made_vars (l : List Nat) {n : Nat} (hn : 1 ≤ n) : ∀ i, i < (made l n).length → fo (made l n) i = 2 → fv (made l n) i < (n : Int) := by
  have h : VrI n (made l n) := by
    unfold made
    simp only
    have h := fold_vr hn (l.take 40) ([], []) (fun x hx => by cases hx)
    split
    · intro x hx h2
      rw [List.mem_singleton] at hx
      subst hx
      cases h2
    · exact join_vr _ _ h
  intro i hi h2
  have e : (made l n).getD i (0, 0, 0, 0) = (made l n)[i] := by rw [List.getD_eq_getElem?_getD, List.getElem?_eq_getElem hi, Option.getD_some]
  unfold fo fv at *
  rw [e] at h2 ⊢
  exact h _ (List.getElem_mem hi) h2
/-- a name as a test -/
def nmB (L : List ByteArray) (v : Nat) : Bool := (match (sg L v).data.toList with | [] => false | b :: x => lt8 b && x.all fun c => lt8 c || dg8 c) && (sg L v).data.toList != [116, 114, 117, 101] && (sg L v).data.toList != [102, 97, 108, 115, 101] && decide (v < L.length) && (List.range v).all fun j => (sg L j).data.toList != (sg L v).data.toList
theorem nmB_ok {L : List ByteArray} {v : Nat} (h : nmB L v = true) : NmW L v := by
  unfold nmB at h
  simp only [Bool.and_eq_true, decide_eq_true_eq, bne_iff_ne, ne_eq, List.all_eq_true, List.mem_range] at h
  obtain ⟨⟨⟨⟨h1, h2⟩, h3⟩, h4⟩, h5⟩ := h
  refine ⟨?_, h2, h3, h4, fun j hj e => h5 j hj (by rw [e])⟩
  rcases e : (sg L v).data.toList with _ | ⟨b, x⟩
  · rw [e] at h1; cases h1
  · rw [e] at h1
    simp only [Bool.and_eq_true, List.all_eq_true] at h1
    exact ⟨b, x, rfl, h1.1, h1.2⟩
theorem L12_nm : NmA L12 := ⟨by decide, fun v hv => nmB_ok (by
  have : ∀ v, v < 12 → nmB L12 v = true := by decide +kernel
  exact this v hv)⟩
theorem L12_size : ∀ j, (sg L12 j).size ≤ 1048576 := fun j => by
  by_cases h : j < 12
  · have : ∀ v, v < 12 → (sg L12 v).size ≤ 1048576 := by decide +kernel
    exact this j h
  · unfold sg
    rw [List.getD_eq_getElem?_getD, List.getElem?_eq_none (by show 12 ≤ j; omega)]
    decide

theorem L12_nine : ∀ j, (sg L12 j).size ≤ 9 := fun j => by
  by_cases h : j < 12
  · have : ∀ v, v < 12 → (sg L12 v).size ≤ 9 := by decide +kernel
    exact this j h
  · unfold sg
    rw [List.getD_eq_getElem?_getD, List.getElem?_eq_none (by show 12 ≤ j; omega)]
    decide
/-- what Print and Parse make of a formula over the fixed names -/
structure TxF (F : List Fi) (T : ByteArray) : Prop where
  txt : T.data.toList = shT F L12 (F.length - 1) 0
  siz : T.size ≤ 10000
  prt : prtS L12 F = T
  err : prtE L12 F = 0
  prs : prsV L12 T.data.toList = (poF F, 0)
  prt2 : prtS L12 (poF F) = T
  err2 : prtE L12 (poF F) = 0
theorem txf {F : List Fi} (h : okF F) (hv : ∀ i, i < F.length → fo F i = 2 → fv F i < ((12 : Nat) : Int)) : ∃ T, TxF F T := by
  have hN : nmdOK F L12.length := hv
  have hN2 : nmdOK (poF F) L12.length := poF_vars h hv
  have h1 := h.1
  have h2 := h.2.1
  have e1 : prtS L12 F = ⟨(shT F L12 (F.length - 1) 0).toArray⟩ := by unfold prtS; rw [if_pos ⟨L12_ok, h, hN⟩]
  have e2 : prtS L12 (poF F) = ⟨(shT F L12 (F.length - 1) 0).toArray⟩ := by unfold prtS; rw [if_pos ⟨L12_ok, poF_ok h, hN2⟩, poF_text h]
  have hl := shT_len (L := L12) h.2.2.1 (C := 9) (by omega) L12_nine (F.length - 1) (by omega) 0
  have hty := ty_le F h
  have HW : ∀ k, k < F.length → fo F k = 2 → NmW L12 (fv F k).toNat := fun k hk e => by
    have := (ok_node (h.2.2.1 k hk)).2.1
    have := hv k hk e
    exact L12_nm.2 _ (by show _ < 12; omega)
  obtain ⟨st, p1, p2, p3⟩ := prs_print h HW
  refine ⟨⟨(shT F L12 (F.length - 1) 0).toArray⟩, by simp, ?_, e1, ?_, ?_, e2, ?_⟩
  · show (shT F L12 (F.length - 1) 0).toArray.size ≤ 10000
    rw [List.size_toArray]
    omega
  · unfold prtE
    rw [if_neg (fun q => q L12_ok), if_neg (fun q => q ⟨h, hN⟩)]
  · unfold prsV
    have e3 : (⟨(shT F L12 (F.length - 1) 0).toArray⟩ : ByteArray).data.toList = shT F L12 (F.length - 1) 0 := by simp
    rw [if_neg (fun q => q L12_ok), e3, p1]
    dsimp only
    rw [p3, p2, if_neg (by decide), if_neg (by have := poF_len h; omega)]
  · unfold prtE
    rw [if_neg (fun q => q L12_ok), if_neg (fun q => q ⟨poF_ok h, hN2⟩)]

end Go.Proofs.YtignkplogkaigaaDoor
