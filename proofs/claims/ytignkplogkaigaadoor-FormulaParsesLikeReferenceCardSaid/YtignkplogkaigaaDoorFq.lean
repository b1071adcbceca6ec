/-
  Plain mathematics and contracts of package diagram, several texts in one: PRd, PPn, PPb, PMv.
-/
import Derived.Test.YtignkplogkaigaaDoorFp
import Derived.Test.YtignkplogkaigaaDoorFo
namespace Go.Proofs.YtignkplogkaigaaDoor
set_option linter.unusedVariables false
set_option linter.unusedSimpArgs false
abbrev Tks := List (List UInt8)
def lp (op : Int) (tok : List UInt8) (G : Tks → PSt → POut (Tks × PSt)) : Nat → Tks → PSt → POut (Tks × PSt)
  | 0, _, _ => .bad
  | m + 1, ts, s => if ts.head? = some tok then (G ts.tail s).bind fun p => (add op 0 p.2).bind fun u => lp op tok G m p.1 u else .ok (ts, s)
def sq (op : Int) (tok : List UInt8) (G : Tks → PSt → POut (Tks × PSt)) (ts : Tks) (s : PSt) : POut (Tks × PSt) := (G ts s).bind fun p => lp op tok G (p.1.length + 1) p.1 p.2
def rdF (L : Tks) : Nat → Tks → PSt → POut (Tks × PSt)
  | 0, _, _ => .bad
  | _ + 1, [], _ => .syn
  | n + 1, t :: ts, s =>
    if t = [33] then (rdF L n ts s).bind fun p => (add 3 0 p.2).bind fun u => .ok (p.1, u) else
    if t = [40] then (sq 5 [124, 124] (sq 4 [38, 38] (rdF L n)) ts s).bind fun p => if p.1.head? = some [41] then .ok (p.1.tail, p.2) else .syn else
    if t = [38, 38] ∨ t = [124, 124] ∨ t = [41] ∨ t = [] then .syn else (wrd L t s).bind fun u => .ok (ts, u)
def rdE (L : Tks) (n : Nat) : Tks → PSt → POut (Tks × PSt) := sq 5 [124, 124] (sq 4 [38, 38] (rdF L n))
theorem Tk.tail {t : List UInt8} {ts : Tks} {r : List UInt8} (h : Tk (t :: ts) r) : t ≠ [] ∧ ∃ r', nxt r = some (t, r') ∧ Tk ts r' := h
theorem StkW.upd {ks : List Nat} {s : PSt} (r : List UInt8) (w : List Int) (h : StkW ks s) : StkW ks (upd r w s) := h
theorem wrd_stk (L : Tks) (t : List UInt8) {ks : List Nat} {s : PSt} (h : StkW ks s) : ∃ s', wrd L t s = .ok s' ∧ StkW (1 :: ks) s' := by
  unfold wrd
  split
  · obtain ⟨s', e, k, _⟩ := add0_st (op := 1) (v := 0) rfl h
    exact ⟨s', e, k⟩
  · split
    · obtain ⟨s', e, k, _⟩ := add0_st (op := 0) (v := 0) rfl h
      exact ⟨s', e, k⟩
    · obtain ⟨s', e, k, _⟩ := add0_st (op := 2) (v := ixL L t) rfl (s := { s with unk := s.unk || decide (ixL L t < 0) }) h
      exact ⟨s', e, k⟩
def SPn (L : Tks) (g : Nat) (G : Tks → PSt → POut (Tks × PSt)) (ts : Tks) : Prop := ∀ (s : PSt) (r : List UInt8) (ks : List Nat), Tk ts r → StkW ks s →
  (G ts s = .syn ∧ ∀ w, (g ≤ 2 → Top w g) → prE L (upd r w s) = .syn) ∨
  ∃ ts' s' r' k, G ts s = .ok (ts', s') ∧ ts'.length < ts.length ∧ Tk ts' r' ∧ StkW (k :: ks) s' ∧ (g ≤ 2 → ts'.head? ≠ some [38, 38]) ∧ (g ≤ 1 → ts'.head? ≠ some [124, 124]) ∧
    ∀ w, (g ≤ 2 → Top w g) → ∃ s1, s1.rest = r' ∧ prE L (upd r w s) = prO L s1 ∧ ∀ op : Int, op = 4 ∨ op = 5 → sgv op ≤ g → app op s1.wait.length s1 = app op w.length (upd r' w s')
theorem top_push (w : List Int) {op : Int} {g : Nat} (h : op = -1 ∨ sgv op < g) : Top (w ++ [op]) g := .inr ⟨w, op, rfl, h⟩
theorem Top.up {w : List Int} {g : Nat} (h : Top w g) : Top w (g + 1) := by
  rcases h with h | ⟨w', x, e, h⟩
  · exact .inl h
  · exact .inr ⟨w', x, e, by omega⟩
theorem awt_of {s1 s' : PSt} {op : Int} {w : List Int} {r' r2 : List UInt8} (hr : s1.rest = r') (ha : app op s1.wait.length s1 = app op w.length (upd r' w s')) (hT : Top w (sgv op)) : awt op { s1 with rest := r2 } = .ok (upd r2 (w ++ [op]) s') := by
  unfold awt
  show (app op s1.wait.length { s1 with rest := r2 }).bind _ = _
  rw [app_rst, ha]
  have := app_top op (upd r' w s') hT
  rw [show app op w.length (upd r' w s') = .ok (upd r' w s') from this]
  rfl
theorem pop_of {op x : Int} {w : List Int} {r' : List UInt8} {s' u : PSt} (hadd : add x 0 s' = .ok u) (hx : ¬ (x = -1 ∨ sgv x < sgv op)) : app op (w ++ [x]).length (upd r' (w ++ [x]) s') = app op w.length (upd r' w u) := by
  refine (app_pop op x w (upd r' (w ++ [x]) s') rfl hx).trans ?_
  rw [add_upd, hadd]
  show app op w.length { upd r' (w ++ [x]) u with wait := (w ++ [x]).take w.length } = _
  rw [List.take_append_of_le_length (Nat.le_refl _), List.take_length]
  rfl
theorem prO_op {L : Tks} {op : Int} (hop : op = 4 ∨ op = 5) {s1 : PSt} {r2 : List UInt8} (h : nxt s1.rest = some (if op = 4 then [38, 38] else [124, 124], r2)) {s' : PSt} {w : List Int} {r' : List UInt8} (hr : s1.rest = r') (ha : app op s1.wait.length s1 = app op w.length (upd r' w s')) (hT : Top w (sgv op)) : prO L s1 = prE L (upd r2 (w ++ [op]) s') := by
  rw [prO_bin hop h, awt_of hr ha hT]
  rfl
theorem lp_sp {L : Tks} {op : Int} (hop : op = 4 ∨ op = 5) {G : Tks → PSt → POut (Tks × PSt)} {n : Nat} (HG : ∀ ts, ts.length < n → SPn L (sgv op + 1) G ts) :
    ∀ m ts s' r' k ks, ts.length < m → ts.length < n → Tk ts r' → StkW (k :: ks) s' → (sgv op ≤ 1 → ts.head? ≠ some [38, 38]) →
    (lp op (if op = 4 then [38, 38] else [124, 124]) G m ts s' = .syn ∧ ∀ w s1, Top w (sgv op) → s1.rest = r' → (∀ o : Int, o = 4 ∨ o = 5 → sgv o ≤ sgv op → app o s1.wait.length s1 = app o w.length (upd r' w s')) → prO L s1 = .syn) ∨
    ∃ ts2 s2 r2 k2, lp op (if op = 4 then [38, 38] else [124, 124]) G m ts s' = .ok (ts2, s2) ∧ ts2.length ≤ ts.length ∧ Tk ts2 r2 ∧ StkW (k2 :: ks) s2 ∧ ts2.head? ≠ some (if op = 4 then [38, 38] else [124, 124]) ∧ (sgv op ≤ 1 → ts2.head? ≠ some [38, 38]) ∧
      ∀ w s1, Top w (sgv op) → s1.rest = r' → (∀ o : Int, o = 4 ∨ o = 5 → sgv o ≤ sgv op → app o s1.wait.length s1 = app o w.length (upd r' w s')) →
        ∃ s3, s3.rest = r2 ∧ prO L s1 = prO L s3 ∧ ∀ o : Int, o = 4 ∨ o = 5 → sgv o ≤ sgv op → app o s3.wait.length s3 = app o w.length (upd r2 w s2)
  | 0, ts, s', r', k, ks, h, _, _, _, _ => by omega
  | m + 1, ts, s', r', k, ks, h, hn, hk, hs, hh => by
    rw [lp]
    by_cases c : ts.head? = some (if op = 4 then [38, 38] else [124, 124])
    rotate_left
    · rw [if_neg c]
      exact .inr ⟨ts, s', r', k, rfl, Nat.le_refl _, hk, hs, c, hh, fun w s1 _ hr ha => ⟨s1, hr, rfl, ha⟩⟩
    rw [if_pos c]
    cases ts with
    | nil => cases c
    | cons t ts =>
      have ht : t = (if op = 4 then [38, 38] else [124, 124]) := by injection c
      obtain ⟨_, r1, hx, hk1⟩ := hk
      rw [ht] at hx
      show (((G ts s').bind fun p => _) = _ ∧ _) ∨ (∃ _ _ _ _, ((G ts s').bind fun p => _) = _ ∧ _)
      simp only [List.length_cons] at h hn
      rcases HG ts (by omega) s' r1 (k :: ks) hk1 hs with ⟨e, hsyn⟩ | ⟨ts1, s1', r2, k1, e, hl, hk2, hs2, hg1, hg2, hw⟩
      · rw [e]
        refine .inl ⟨rfl, fun w s1 hT hr ha => ?_⟩
        rw [prO_op hop (by rw [hr]; exact hx) hr (ha op hop (Nat.le_refl _)) hT]
        exact hsyn _ (fun _ => top_push w (.inr (by omega)))
      rw [e]
      obtain ⟨u, eu, hu, _⟩ := add2_st (op := op) (v := 0) (by rcases hop with q | q <;> subst q <;> rfl) hs2
      show (((add op 0 s1').bind fun u => _) = _ ∧ _) ∨ (∃ _ _ _ _, ((add op 0 s1').bind fun u => _) = _ ∧ _)
      rw [eu]
      have stp : ∀ w s1, Top w (sgv op) → s1.rest = r' → (∀ o : Int, o = 4 ∨ o = 5 → sgv o ≤ sgv op → app o s1.wait.length s1 = app o w.length (upd r' w s')) → ∃ s3, s3.rest = r2 ∧ prO L s1 = prO L s3 ∧ ∀ o : Int, o = 4 ∨ o = 5 → sgv o ≤ sgv op → app o s3.wait.length s3 = app o w.length (upd r2 w u) := by
        intro w s1 hT hr ha
        obtain ⟨s3, q1, q2, q3⟩ := hw (w ++ [op]) (fun _ => top_push w (.inr (by omega)))
        refine ⟨s3, q1, ?_, fun o ho hle => ?_⟩
        · rw [prO_op hop (by rw [hr]; exact hx) hr (ha op hop (Nat.le_refl _)) hT]
          exact q2
        · rw [q3 o ho (by omega)]
          exact pop_of eu (by rcases hop with q | q <;> omega)
      rcases lp_sp hop HG m ts1 u r2 _ ks (by omega) (by omega) hk2 hu (fun _ => hg1 (by omega)) with ⟨e2, hsyn⟩ | ⟨ts2, s2, r3, k2, e2, hl2, hk3, hs3, hh1, hh2, hw2⟩
      · refine .inl ⟨e2, fun w s1 hT hr ha => ?_⟩
        obtain ⟨s3, q1, q2, q3⟩ := stp w s1 hT hr ha
        rw [q2]
        exact hsyn w s3 hT q1 q3
      · refine .inr ⟨ts2, s2, r3, k2, e2, by simp only [List.length_cons]; omega, hk3, hs3, hh1, hh2, fun w s1 hT hr ha => ?_⟩
        obtain ⟨s3, q1, q2, q3⟩ := stp w s1 hT hr ha
        obtain ⟨s4, q4, q5, q6⟩ := hw2 w s3 hT q1 q3
        exact ⟨s4, q4, q2.trans q5, q6⟩
theorem sq_sp {L : Tks} {op : Int} (hop : op = 4 ∨ op = 5) {G : Tks → PSt → POut (Tks × PSt)} {n : Nat} (HG : ∀ ts, ts.length < n → SPn L (sgv op + 1) G ts) : ∀ ts, ts.length < n → SPn L (sgv op) (sq op (if op = 4 then [38, 38] else [124, 124]) G) ts := by
  intro ts hn s r ks hk hs
  have hs2 := sgv_le hop
  unfold sq
  rcases HG ts hn s r ks hk hs with ⟨e, hsyn⟩ | ⟨ts1, s1', r1, k1, e, hl, hk1, hst, hg1, hg2, hw⟩
  · rw [e]
    exact .inl ⟨rfl, fun w hT => hsyn w (fun _ => (hT hs2).up)⟩
  rw [e]
  show ((lp op _ G (ts1.length + 1) ts1 s1') = _ ∧ _) ∨ (∃ _ _ _ _, (lp op _ G (ts1.length + 1) ts1 s1') = _ ∧ _)
  rcases lp_sp hop HG (ts1.length + 1) ts1 s1' r1 k1 ks (by omega) (by omega) hk1 hst (fun _ => hg1 (by omega)) with ⟨e2, hsyn⟩ | ⟨ts2, s2, r2, k2, e2, hl2, hk2, hst2, hh1, hh2, hw2⟩
  · refine .inl ⟨e2, fun w hT => ?_⟩
    obtain ⟨s1, q1, q2, q3⟩ := hw w (fun _ => (hT hs2).up)
    rw [q2]
    exact hsyn w s1 (hT hs2) q1 (fun o ho hle => q3 o ho (by omega))
  · refine .inr ⟨ts2, s2, r2, k2, e2, by omega, hk2, hst2, fun hle => ?_, fun hle => ?_, fun w hT => ?_⟩
    · rcases hop with q | q
      · subst q; exact hh1
      · subst q; exact hh2 (by decide)
    · rcases hop with q | q
      · subst q; exact absurd hle (by decide)
      · subst q; exact hh1
    · obtain ⟨s1, q1, q2, q3⟩ := hw w (fun _ => (hT hs2).up)
      obtain ⟨s3, q4, q5, q6⟩ := hw2 w s1 (hT hs2) q1 (fun o ho hle => q3 o ho (by omega))
      exact ⟨s3, q4, q2.trans q5, q6⟩
theorem rdF_sp (L : Tks) : ∀ n ts, ts.length < n → SPn L 3 (rdF L n) ts
  | 0, ts, h => by omega
  | n + 1, [], h => by
    intro s r ks hk hs
    exact .inl ⟨rfl, fun w _ => prE_syn (s := upd r w s) (t := []) (r := []) hk (by simp)⟩
  | n + 1, t :: ts, h => by
    intro s r ks hk hs
    obtain ⟨hne, r1, hx, hk1⟩ := hk
    simp only [List.length_cons] at h
    rw [rdF]
    by_cases h1 : t = [33]
    · subst h1
      rw [if_pos rfl]
      rcases rdF_sp L n ts (by omega) s r1 ks hk1 hs with ⟨e, hsyn⟩ | ⟨ts1, s1', r2, k1, e, hl, hk2, hst, _, _, hw⟩
      · rw [e]
        refine .inl ⟨rfl, fun w _ => ?_⟩
        rw [prE_not (s := upd r w s) (r := r1) hx]
        exact hsyn (w ++ [3]) (fun q => by omega)
      · rw [e]
        obtain ⟨u, eu, hu, _⟩ := add1_st (op := 3) (v := 0) rfl hst
        refine .inr ⟨ts1, u, r2, _, by show ((add 3 0 s1').bind _) = _; rw [eu]; rfl, by simp only [List.length_cons]; omega, hk2, hu, fun q => by omega, fun q => by omega, fun w _ => ?_⟩
        obtain ⟨s1, q1, q2, q3⟩ := hw (w ++ [3]) (fun q => by omega)
        refine ⟨s1, q1, ?_, fun o ho hle => ?_⟩
        · rw [prE_not (s := upd r w s) (r := r1) hx]
          exact q2
        · rw [q3 o ho hle]
          have := sgv_le ho
          exact pop_of eu (by have : sgv 3 = 3 := rfl; omega)
    rw [if_neg h1]
    by_cases h2 : t = [40]
    · subst h2
      rw [if_pos rfl]
      have HC : ∀ ts, ts.length < n → SPn L 2 (sq 4 [38, 38] (rdF L n)) ts := sq_sp (op := 4) (.inl rfl) (rdF_sp L n)
      have HE : ∀ ts, ts.length < n → SPn L 1 (sq 5 [124, 124] (sq 4 [38, 38] (rdF L n))) ts := sq_sp (op := 5) (.inr rfl) HC
      rcases HE ts (by omega) s r1 ks hk1 hs with ⟨e, hsyn⟩ | ⟨ts1, s1', r2, k1, e, hl, hk2, hst, hg1, hg2, hw⟩
      · rw [e]
        refine .inl ⟨rfl, fun w _ => ?_⟩
        rw [prE_par (s := upd r w s) (r := r1) hx]
        exact hsyn (w ++ [-1]) (fun q => top_push w (.inl rfl))
      rw [e]
      have hg1 := hg1 (by omega)
      have hg2 := hg2 (by omega)
      have stp : ∀ w, ∃ s1, s1.rest = r2 ∧ prE L (upd r w s) = prO L s1 ∧ app 5 s1.wait.length s1 = .ok (upd r2 (w ++ [-1]) s1') := by
        intro w
        obtain ⟨s1, q1, q2, q3⟩ := hw (w ++ [-1]) (fun q => top_push w (.inl rfl))
        refine ⟨s1, q1, ?_, ?_⟩
        · rw [prE_par (s := upd r w s) (r := r1) hx]
          exact q2
        · exact (q3 5 (.inr rfl) (by decide)).trans (app_top 5 (upd r2 (w ++ [-1]) s1') (top_push w (.inl rfl)))
      show ((if ts1.head? = some [41] then _ else _) = _ ∧ _) ∨ (∃ _ _ _ _, (if ts1.head? = some [41] then _ else _) = _ ∧ _)
      cases ts1 with
      | nil =>
        rw [if_neg (by decide)]
        refine .inl ⟨rfl, fun w _ => ?_⟩
        obtain ⟨s1, q1, q2, q3⟩ := stp w
        rw [q2, prO_end (r := []) (by rw [q1]; exact hk2), app_rst, q3]
        show (if 0 < (w ++ [-1]).length then _ else _) = _
        rw [if_pos (by simp)]
      | cons t2 ts2 =>
        obtain ⟨hne2, r3, hx2, hk3⟩ := hk2
        by_cases h3 : t2 = [41]
        · subst h3
          rw [if_pos (show ([41] :: ts2 : Tks).head? = some [41] from rfl)]
          simp only [List.length_cons] at hl
          refine .inr ⟨ts2, s1', r3, k1, rfl, by simp only [List.length_cons]; omega, hk3, hst, fun q => by omega, fun q => by omega, fun w _ => ?_⟩
          obtain ⟨s1, q1, q2, q3⟩ := stp w
          refine ⟨upd r3 w s1', rfl, ?_, fun o _ _ => rfl⟩
          rw [q2, prO_par (r := r3) (by rw [q1]; exact hx2), app_rst, q3]
          show (if (w ++ [-1]).length = 0 then _ else prO L (upd r3 ((w ++ [-1]).take ((w ++ [-1]).length - 1)) s1')) = _
          rw [if_neg (by simp)]
          have : (w ++ [-1]).take ((w ++ [-1]).length - 1) = w := by simp
          rw [this]
        · rw [if_neg (by intro q; injection q with q; exact h3 q)]
          refine .inl ⟨rfl, fun w _ => ?_⟩
          obtain ⟨s1, q1, q2, q3⟩ := stp w
          rw [q2]
          exact prO_syn (by rw [q1]; exact hx2) h3 (fun q => hg1 (by rw [q]; rfl)) (fun q => hg2 (by rw [q]; rfl)) hne2
    rw [if_neg h2]
    by_cases h3 : t = [38, 38] ∨ t = [124, 124] ∨ t = [41] ∨ t = []
    · rw [if_pos h3]
      exact .inl ⟨rfl, fun w _ => prE_syn (s := upd r w s) hx h3⟩
    rw [if_neg h3]
    obtain ⟨u, eu, hu⟩ := wrd_stk L t hs
    refine .inr ⟨ts, u, r1, 1, by rw [eu]; rfl, by simp, hk1, hu, fun q => by omega, fun q => by omega, fun w _ => ⟨upd r1 w u, rfl, ?_, fun o _ _ => rfl⟩⟩
    rw [prE_wrd (s := upd r w s) hx h1 h2 h3]
    show (wrd L t (upd r1 w s)).bind _ = _
    rw [wrd_rst, eu]
    rfl
theorem rdE_sp (L : Tks) (n : Nat) : ∀ ts, ts.length < n → SPn L 1 (rdE L n) ts :=
  sq_sp (op := 5) (.inr rfl) (sq_sp (op := 4) (.inl rfl) (rdF_sp L n))
def stZ : PSt := { rest := [], wait := [], nodes := [], sizes := [], unk := false }
theorem prs_rd (L : Tks) {ts : Tks} {r : List UInt8} (h : Tk ts r) : prs L r = match rdE L (ts.length + 1) ts stZ with
    | .ok (ts', s') => if ts' = [] then .ok (upd [] [] s') else .syn
    | _ => .syn := by
  rw [prs_E]
  show prE L (upd r [] stZ) = _
  rcases rdE_sp L (ts.length + 1) ts (by omega) stZ r [] h (.inr ⟨rfl, rfl⟩) with ⟨e, hsyn⟩ | ⟨ts1, s1', r2, k1, e, hl, hk2, hst, hg1, hg2, hw⟩
  · rw [e]
    exact hsyn [] (fun _ => .inl rfl)
  rw [e]
  obtain ⟨s1, q1, q2, q3⟩ := hw [] (fun _ => .inl rfl)
  have q4 : app 5 s1.wait.length s1 = .ok (upd r2 [] s1') := (q3 5 (.inr rfl) (by decide)).trans (app_top 5 (upd r2 [] s1') (.inl rfl))
  have hg1 := hg1 (by omega)
  have hg2 := hg2 (by omega)
  rw [q2]
  show _ = if ts1 = [] then _ else _
  cases ts1 with
  | nil =>
    rw [if_pos rfl, prO_end (r := []) (by rw [q1]; exact hk2), app_rst, q4]
    rfl
  | cons t2 ts2 =>
    obtain ⟨hne2, r3, hx2, hk3⟩ := hk2
    rw [if_neg (by simp)]
    by_cases h3 : t2 = [41]
    · subst h3
      rw [prO_par (r := r3) (by rw [q1]; exact hx2), app_rst, q4]
      rfl
    · exact prO_syn (by rw [q1]; exact hx2) h3 (fun q => hg1 (by rw [q]; rfl)) (fun q => hg2 (by rw [q]; rfl)) hne2
end Go.Proofs.YtignkplogkaigaaDoor
namespace Go.Proofs.YtignkplogkaigaaDoor
set_option linter.unusedVariables false
set_option linter.unusedSimpArgs false
def c40 (x : List UInt8) : Nat := x.count 40
theorem c40_app (x y : List UInt8) : c40 (x ++ y) = c40 x + c40 y := by unfold c40; exact List.count_append
theorem add_unk {op v : Int} {s u : PSt} (e : add op v s = .ok u) : u.unk = s.unk := by
  unfold add at e
  simp only at e
  repeat' (split at e)
  all_goals first | (injection e with e; subst e; rfl) | (cases e)
theorem add_len {op v : Int} {s u : PSt} (e : add op v s = .ok u) : s.nodes.length ≤ u.nodes.length := by
  unfold add at e
  simp only at e
  repeat' (split at e)
  all_goals first | (injection e with e; subst e; simp) | (cases e)
def Mo (G : Tks → PSt → POut (Tks × PSt)) : Prop := ∀ ts s ts' s', G ts s = .ok (ts', s') → (s'.unk = false → s.unk = false) ∧ s.nodes.length ≤ s'.nodes.length
theorem c40_word {b : UInt8} {x : List UInt8} (hb : lt8 b = true) (hx : ∀ c ∈ x, (lt8 c || dg8 c) = true) : c40 (b :: x) = 0 := by
  unfold c40
  rw [List.count_eq_zero]
  have hd : ∀ c : UInt8, (lt8 c || dg8 c) = true → c ≠ 40 := by
    intro c
    obtain ⟨⟨n⟩⟩ := c
    revert n
    decide +kernel
  intro h
  rcases List.mem_cons.1 h with q | q
  · exact hd b (by rw [hb]; rfl) q.symm
  · exact hd 40 (hx 40 q) rfl
theorem mem_tw {p : UInt8 → Bool} : ∀ {r : List UInt8} {b : UInt8}, b ∈ r.takeWhile p → p b = true
  | [], b, h => by cases h
  | c :: r, b, h => by
    rw [List.takeWhile_cons] at h
    split at h
    · rcases List.mem_cons.1 h with q | q
      · subst q; assumption
      · exact mem_tw q
    · cases h
theorem nxt_split {r t r' : List UInt8} (h : nxt r = some (t, r')) : ∃ B, (∀ b ∈ B, blk8 b = true) ∧ r = B ++ (t ++ r') := by
  unfold nxt at h
  simp only at h
  rw [Option.map_eq_some_iff] at h
  obtain ⟨n, hn, e⟩ := h
  injection e with e1 e2
  refine ⟨r.takeWhile blk8, fun b hb => mem_tw hb, ?_⟩
  rw [← e1, ← e2, List.take_append_drop, List.takeWhile_append_dropWhile]
end Go.Proofs.YtignkplogkaigaaDoor
namespace Go.Proofs.YtignkplogkaigaaDoor
set_option linter.unusedVariables false
set_option linter.unusedSimpArgs false
theorem lt_no {b : UInt8} (h : (lt8 b || dg8 b) = true) : b ≠ 40 ∧ b ≠ 41 := by
  have : ∀ b : UInt8, (lt8 b || dg8 b) = true → b ≠ 40 ∧ b ≠ 41 := by
    intro b
    obtain ⟨⟨n⟩⟩ := b
    revert n
    decide +kernel
  exact this b h
theorem c40_none {x : List UInt8} (h : ∀ b ∈ x, b ≠ 40) : c40 x = 0 := by
  unfold c40
  rw [List.count_eq_zero]
  exact fun q => h 40 q rfl
theorem c40_blk {x : List UInt8} (h : ∀ b ∈ x, blk8 b = true) : c40 x = 0 :=
  c40_none fun b hb q => by have := h b hb; rw [q] at this; cases this
theorem tk_c40 {r : List UInt8} {n : Nat} (h : tkN r = some n) : (r.take n = [] → r = []) ∧ c40 (r.take n) = if r.take n = [40] then 1 else 0 := by
  cases r with
  | nil =>
    injection h with h
    subst h
    exact ⟨fun _ => rfl, rfl⟩
  | cons b t =>
    unfold tkN at h
    simp only at h
    split at h
    · rename_i q
      injection h with h
      subst h
      cases t with
      | nil => cases q.2
      | cons c u =>
        have : c = 38 := by injection q.2
        rw [q.1, this]
        exact ⟨fun e => (by cases e), rfl⟩
    split at h
    · rename_i q
      injection h with h
      subst h
      cases t with
      | nil => cases q.2
      | cons c u =>
        have : c = 124 := by injection q.2
        rw [q.1, this]
        exact ⟨fun e => (by cases e), rfl⟩
    split at h
    · rename_i q
      injection h with h
      subst h
      refine ⟨fun e => (by cases e), ?_⟩
      rcases q with q | q | q <;> rw [q] <;> rfl
    split at h
    · rename_i q
      injection h with h
      subst h
      have e : (b :: t).take (wlN (b :: t)) = b :: t.takeWhile (fun c => lt8 c || dg8 c) := by
        have ew : wlN (b :: t) = 1 + (t.takeWhile (fun c => lt8 c || dg8 c)).length := if_pos q
        rw [ew, Nat.add_comm, List.take_succ_cons]
        congr 1
        exact (List.prefix_iff_eq_take.1 (List.takeWhile_prefix _)).symm
      rw [e]
      refine ⟨fun e => (by cases e), ?_⟩
      have hb := (lt_no (b := b) (by rw [q]; rfl)).1
      rw [if_neg (by intro z; injection z with z; exact hb z)]
      exact c40_word q (fun c hc => mem_tw (p := fun c => lt8 c || dg8 c) hc)
    · cases h
theorem nxt_c40 {r t r' : List UInt8} (h : nxt r = some (t, r')) : c40 r = (if t = [40] then 1 else 0) + c40 r' ∧ (t = [] → r' = []) := by
  obtain ⟨B, hB, e⟩ := nxt_split h
  unfold nxt at h
  simp only at h
  rw [Option.map_eq_some_iff] at h
  obtain ⟨n, hn, e2⟩ := h
  injection e2 with e3 e4
  obtain ⟨a1, a2⟩ := tk_c40 hn
  rw [e3] at a1 a2
  refine ⟨?_, fun q => ?_⟩
  · rw [e, c40_app, c40_app, c40_blk hB, a2]
    omega
  · rw [← e4, a1 q]
    simp
theorem awt_rest {op : Int} {s u : PSt} (e : awt op s = .ok u) : u.rest = s.rest := by
  unfold awt at e
  obtain ⟨a, e1, e2⟩ := bind_ok' e
  injection e2 with e2
  rw [← e2]
  have := app_rest op _ _ _ e1
  exact this
theorem pr_lex (L : Tks) : ∀ n s s', s.rest.length < n → (prE L s = .ok s' → ∃ ts, Tk ts s.rest) ∧ (prO L s = .ok s' → ∃ ts, Tk ts s.rest)
  | 0, _, _, h => by omega
  | n + 1, s, s', h => by
    rcases hx : nxt s.rest with _ | ⟨t, r⟩
    · exact ⟨fun e => (by rw [prE_none hx] at e; cases e), fun e => (by rw [prO_none hx] at e; cases e)⟩
    have stp : t ≠ [] → ∀ u : PSt, u.rest = r → (prE L u = .ok s' ∨ prO L u = .ok s') → ∃ ts, Tk ts s.rest := fun hne u hu hq => by
      have hlt := nxt_lt hx hne
      have ih := pr_lex L n u s' (by rw [hu]; omega)
      rw [hu] at ih
      obtain ⟨ts, hk⟩ : ∃ ts, Tk ts r := by
        rcases hq with q | q
        · exact ih.1 q
        · exact ih.2 q
      exact ⟨t :: ts, hne, r, hx, hk⟩
    refine ⟨fun e => ?_, fun e => ?_⟩
    · by_cases h1 : t = [33]
      · subst h1
        rw [prE_not hx] at e
        exact stp (by simp) _ rfl (.inl e)
      by_cases h2 : t = [40]
      · subst h2
        rw [prE_par hx] at e
        exact stp (by simp) _ rfl (.inl e)
      by_cases h3 : t = [38, 38] ∨ t = [124, 124] ∨ t = [41] ∨ t = []
      · rw [prE_syn hx h3] at e; cases e
      rw [prE_wrd hx h1 h2 h3] at e
      obtain ⟨u, e1, e2⟩ := bind_ok' e
      exact stp (fun q => h3 (.inr (.inr (.inr q)))) u (wrd_rest e1) (.inr e2)
    · by_cases h1 : t = [41]
      · subst h1
        rw [prO_par hx] at e
        obtain ⟨u, e1, e2⟩ := bind_ok' e
        split at e2
        · cases e2
        · have hr : u.rest = r := app_rest 5 _ _ _ e1
          exact stp (by simp) { u with wait := u.wait.take (u.wait.length - 1) } hr (.inr e2)
      have hbin : ∀ op : Int, op = 4 ∨ op = 5 → t = (if op = 4 then [38, 38] else [124, 124]) → ∃ ts, Tk ts s.rest := fun op hop q => by
        rw [prO_bin hop (by rw [← q]; exact hx)] at e
        obtain ⟨u, e1, e2⟩ := bind_ok' e
        exact stp (by rw [q]; rcases hop with z | z <;> subst z <;> decide) u (awt_rest e1) (.inl e2)
      by_cases h2 : t = [38, 38]
      · exact hbin 4 (.inl rfl) h2
      by_cases h3 : t = [124, 124]
      · exact hbin 5 (.inr rfl) h3
      by_cases h4 : t = []
      · subst h4
        exact ⟨[], by show nxt s.rest = _; rw [hx, (nxt_c40 hx).2 rfl]⟩
      rw [prO_syn hx h1 h2 h3 h4] at e
      cases e
theorem prs_lex {L : Tks} {r : List UInt8} {st : PSt} (h : prs L r = .ok st) : ∃ ts, Tk ts r := by
  rw [prs_E] at h
  exact (pr_lex L (r.length + 1) _ _ (Nat.lt_succ_self _)).1 h
def c41 (x : List UInt8) : Nat := x.count 41
theorem c41_app (x y : List UInt8) : c41 (x ++ y) = c41 x + c41 y := by unfold c41; exact List.count_append
def nt (x : List UInt8) : Int := (c40 x : Int) - (c41 x : Int)
theorem nt_app (x y : List UInt8) : nt (x ++ y) = nt x + nt y := by unfold nt; rw [c40_app, c41_app]; omega
theorem nt_cons (b : UInt8) (x : List UInt8) : nt (b :: x) = (if b = 40 then 1 else if b = 41 then -1 else 0) + nt x := by
  unfold nt c40 c41
  rw [List.count_cons, List.count_cons]
  by_cases h : b = 40
  · subst h
    rw [if_pos (by decide), if_neg (by decide), if_pos rfl]
    omega
  · rw [if_neg (by simpa using h), if_neg h]
    by_cases h2 : b = 41
    · subst h2
      rw [if_pos (by decide), if_pos rfl]
      omega
    · rw [if_neg (by simpa using h2), if_neg h2]
      omega
theorem pre_app {y : List UInt8} : ∀ {x p : List UInt8}, p <+: x ++ y → p <+: x ∨ ∃ z, p = x ++ z ∧ z <+: y
  | [], p, h => .inr ⟨p, rfl, h⟩
  | a :: x, [], h => .inl (List.nil_prefix)
  | a :: x, b :: p, h => by
    rw [List.cons_append, List.cons_prefix_cons] at h
    obtain ⟨e, h⟩ := h
    subst e
    rcases pre_app h with q | ⟨z, q1, q2⟩
    · exact .inl (List.cons_prefix_cons.2 ⟨rfl, q⟩)
    · exact .inr ⟨z, by rw [q1]; rfl, q2⟩
def Bl (x : List UInt8) : Prop := nt x = 0 ∧ ∀ p, p <+: x → 0 ≤ nt p
theorem Bl.app {x y : List UInt8} (hx : Bl x) (hy : Bl y) : Bl (x ++ y) := by
  refine ⟨by rw [nt_app, hx.1, hy.1]; rfl, fun p hp => ?_⟩
  rcases pre_app hp with q | ⟨z, q1, q2⟩
  · exact hx.2 p q
  · rw [q1, nt_app, hx.1]
    have := hy.2 z q2
    omega
theorem Bl.none {x : List UInt8} (h : ∀ b ∈ x, b ≠ 40 ∧ b ≠ 41) : Bl x := by
  have h0 : ∀ p : List UInt8, (∀ b ∈ p, b ≠ 40 ∧ b ≠ 41) → nt p = 0 := by
    intro p
    induction p with
    | nil => intro _; rfl
    | cons b p ih =>
      intro hp
      obtain ⟨h1, h2⟩ := hp b (by simp)
      rw [nt_cons, if_neg h1, if_neg h2, ih (fun c hc => hp c (by simp [hc]))]
      rfl
  refine ⟨h0 x h, fun p hp => ?_⟩
  rw [h0 p (fun b hb => h b (hp.subset hb))]
  exact Int.le_refl 0
def cl : Nat → List UInt8 → Option Nat
  | _, [] => none
  | d, b :: x => if b = 40 then (cl (d + 1) x).map (· + 1) else if b = 41 then (if d = 1 then some 0 else (cl (d - 1) x).map (· + 1)) else (cl d x).map (· + 1)
end Go.Proofs.YtignkplogkaigaaDoor
namespace Go.Proofs.YtignkplogkaigaaDoor
set_option linter.unusedVariables false
set_option linter.unusedSimpArgs false
def VrI (n : Nat) (N : List Fi) : Prop := ∀ x ∈ N, x.1 = 2 → x.2.1 < (n : Int)
theorem VrI.snoc {n : Nat} {N : List Fi} {y : Fi} (h : VrI n N) (hy : y.1 = 2 → y.2.1 < (n : Int)) : VrI n (N ++ [y]) := by
  intro x hx h2
  rcases List.mem_append.1 hx with q | q
  · exact h x q h2
  · rw [List.mem_singleton] at q
    subst q
    exact hy h2
end Go.Proofs.YtignkplogkaigaaDoor
