/-
  Plain mathematics and contracts of package diagram, several texts in one: PRq.
-/
import Derived.Test.YtignkplogkaigaaDoorFq

/-! The reference's parser in plain mathematics; it answers what the code's parser answers. -/
namespace Go.Proofs.YtignkplogkaigaaDoor
set_option linter.unusedVariables false
set_option linter.unusedSimpArgs false

/-- what is left of the tokens, the nodes, whether a name is unknown; none: the parser is bad -/
abbrev QOut := Option (Tks × List Fi × Bool)
def lpq (op : Int) (tok : List UInt8) (G : Tks → List Fi → Bool → QOut) : Nat → Tks → List Fi → Bool → QOut
  | 0, _, _, _ => none
  | m + 1, ts, N, u => if ts.head? = some tok then (G ts.tail N u).bind fun p => lpq op tok G m p.1 (p.2.1 ++ [(op, 0, ((N.length - 1 : Nat) : Int), ((p.2.1.length - 1 : Nat) : Int))]) p.2.2 else some (ts, N, u)
def sqq (op : Int) (tok : List UInt8) (G : Tks → List Fi → Bool → QOut) (ts : Tks) (N : List Fi) (u : Bool) : QOut := (G ts N u).bind fun p => lpq op tok G (p.1.length + 1) p.1 p.2.1 p.2.2
/-- a byte string is an identifier -/
def idT : List UInt8 → Prop
  | [] => False
  | b :: x => lt8 b = true ∧ ∀ c ∈ x, (lt8 c || dg8 c) = true
instance : ∀ t, Decidable (idT t)
  | [] => inferInstanceAs (Decidable False)
  | b :: x => inferInstanceAs (Decidable (lt8 b = true ∧ ∀ c ∈ x, (lt8 c || dg8 c) = true))
def rqF (L : Tks) : Nat → Tks → List Fi → Bool → QOut
  | 0, _, _, _ => none
  | _ + 1, [], _, _ => none
  | n + 1, t :: ts, N, u =>
    if t = [33] then (rqF L n ts N u).bind fun p => some (p.1, p.2.1 ++ [(3, 0, ((p.2.1.length - 1 : Nat) : Int), 0)], p.2.2) else
    if t = [116, 114, 117, 101] then some (ts, N ++ [(1, 0, 0, 0)], u) else
    if t = [102, 97, 108, 115, 101] then some (ts, N ++ [(0, 0, 0, 0)], u) else
    if t = [40] then (sqq 5 [124, 124] (sqq 4 [38, 38] (rqF L n)) ts N u).bind fun p => if p.1.head? = some [41] then some (p.1.tail, p.2) else none else
    if idT t then some (ts, N ++ [(2, if ixL L t < 0 then 0 else ixL L t, 0, 0)], u || decide (ixL L t < 0)) else none
def rqE (L : Tks) (n : Nat) : Tks → List Fi → Bool → QOut := sqq 5 [124, 124] (sqq 4 [38, 38] (rqF L n))
/-- a token of the tokenizer -/
def tkO (t : List UInt8) : Prop := t = [33] ∨ t = [40] ∨ t = [41] ∨ t = [38, 38] ∨ t = [124, 124] ∨ idT t
/-- the two parsers' nodes -/
def RnQ (s : PSt) (N : List Fi) (u : Bool) : Prop := s.unk = u ∧ ((512 < N.length ∧ 512 < s.nodes.length) ∨ (N.length ≤ 512 ∧ s.nodes.length = N.length ∧ s.sizes.length = s.nodes.length ∧ (u = false → s.nodes = N)))
/-- the two answers of a parsing function -/
def AnQ (P : Tks → PSt → List Fi → Bool → Prop) : POut (Tks × PSt) → QOut → Prop
  | .syn, none => True
  | .ok (ts', s'), some (ts2, N', u') => ts' = ts2 ∧ P ts' s' N' u'
  | _, _ => False
theorem AnQ.bind {P Q : Tks → PSt → List Fi → Bool → Prop} {x : POut (Tks × PSt)} {y : QOut} {f : Tks × PSt → POut (Tks × PSt)} {g : Tks × List Fi × Bool → QOut} (h : AnQ P x y) (hf : ∀ ts s N u, P ts s N u → AnQ Q (f (ts, s)) (g (ts, N, u))) : AnQ Q (x.bind f) (y.bind g) := by
  rcases x with ⟨ts, s⟩ | _ | _ <;> rcases y with _ | ⟨ts2, N, u⟩
  all_goals try exact h.elim
  · obtain ⟨e, h⟩ := h
    subst e
    exact hf ts s N u h
  · exact trivial
theorem AnQ.mono {P Q : Tks → PSt → List Fi → Bool → Prop} {x : POut (Tks × PSt)} {y : QOut} (h : AnQ P x y) (hf : ∀ ts s N u, P ts s N u → Q ts s N u) : AnQ Q x y := by
  rcases x with ⟨ts, s⟩ | _ | _ <;> rcases y with _ | ⟨ts2, N, u⟩
  all_goals try exact h.elim
  · exact ⟨h.1, hf _ _ _ _ h.2⟩
  · exact trivial
/-- k nodes have become k2, over the sizes ks; at most m tokens are left -/
def QP (n0 : Nat) (ks : List Nat) (m : Nat) (ts' : Tks) (s' : PSt) (N' : List Fi) (u' : Bool) : Prop :=
  ts'.length ≤ m ∧ (∀ t ∈ ts', tkO t) ∧ RnQ s' N' u' ∧ n0 + 1 ≤ N'.length ∧ ∃ k, StkW (k :: ks) s' ∧ (N'.length ≤ 512 → N'.length = n0 + k)
def QR (G : Tks → PSt → POut (Tks × PSt)) (H : Tks → List Fi → Bool → QOut) (ts : Tks) : Prop := ∀ s N u ks, (∀ t ∈ ts, tkO t) → RnQ s N u → StkW ks s → AnQ (QP N.length ks (ts.length - 1)) (G ts s) (H ts N u)
theorem rn_add {op v : Int} {s u : PSt} {N : List Fi} {b : Bool} (h : RnQ s N b) (e : add op v s = .ok u) (x : Fi)
    (hx : s.nodes.length = N.length → b = false → ∀ y, u.nodes = s.nodes ++ [y] → y = x) : RnQ u (N ++ [x]) b := by
  have h1 := add_unk e
  have h2 := add_len e
  refine ⟨h1.trans h.1, ?_⟩
  rcases h.2 with ⟨a1, a2⟩ | ⟨a1, a2, a3, a4⟩
  · exact .inl ⟨by simp; omega, by omega⟩
  · unfold add at e
    rw [if_neg (by omega)] at e
    simp only at e
    have key : ∀ (y : Fi) (z : Nat) (un : Bool), POut.ok { s with nodes := s.nodes ++ [y], sizes := s.sizes ++ [z] } = POut.ok u → (512 < (N ++ [x]).length ∧ 512 < u.nodes.length) ∨ ((N ++ [x]).length ≤ 512 ∧ u.nodes.length = (N ++ [x]).length ∧ u.sizes.length = u.nodes.length ∧ (b = false → u.nodes = N ++ [x])) := by
      intro y z _ e
      injection e with e
      have e1 : u.nodes = s.nodes ++ [y] := by rw [← e]
      have e2 : u.sizes = s.sizes ++ [z] := by rw [← e]
      by_cases q : N.length = 512
      · exact .inl ⟨by simp; omega, by rw [e1]; simp; omega⟩
      · refine .inr ⟨by simp; omega, by rw [e1]; simp [a2], by rw [e1, e2]; simp [a3], fun hb => ?_⟩
        rw [e1, a4 hb, hx a2 hb y e1]
    split at e
    · exact key _ _ true e
    · split at e
      · cases e
      · split at e
        · exact key _ _ true e
        · split at e
          · cases e
          · exact key _ _ true e
theorem lp_q {op : Int} (hop : op = 4 ∨ op = 5) {tok : List UInt8} {G : Tks → PSt → POut (Tks × PSt)} {H : Tks → List Fi → Bool → QOut} {n : Nat} (HG : ∀ ts, ts.length < n → QR G H ts) :
    ∀ m ts s N u n0 ks, ts.length < m → ts.length < n → QP n0 ks ts.length ts s N u → AnQ (QP n0 ks ts.length) (lp op tok G m ts s) (lpq op tok H m ts N u)
  | 0, _, _, _, _, _, _, h, _, _ => by omega
  | m + 1, ts, s, N, u, n0, ks, h, hn, hq => by
    rw [lp, lpq]
    by_cases c : ts.head? = some tok
    rotate_left
    · rw [if_neg c, if_neg c]
      exact ⟨rfl, hq⟩
    rw [if_pos c, if_pos c]
    have hlt : ts.tail.length < ts.length := by
      cases ts with
      | nil => cases c
      | cons a b => simp
    obtain ⟨_, ht, hr, h1, k, hs, hk⟩ := hq
    refine (HG ts.tail (by omega) s N u (k :: ks) (fun t h => ht t (List.mem_of_mem_tail h)) hr hs).bind (fun ts1 s1 N2 u2 q => ?_)
    obtain ⟨b2, ht1, b3, b4, k1, b5, b6⟩ := q
    have har : ar op = 2 := by rcases hop with q | q <;> subst q <;> rfl
    obtain ⟨v, ev, hv, _⟩ := add2_st (op := op) (v := 0) har b5
    have hrn : RnQ v (N2 ++ [(op, 0, ((N.length - 1 : Nat) : Int), ((N2.length - 1 : Nat) : Int))]) u2 := by
      refine rn_add b3 ev _ (fun hlen hb y hy => ?_)
      by_cases q : N2.length ≤ 512
      · have hk := b6 q
        have hss : s1.sizes.length = s1.nodes.length := by
          rcases b3.2 with z | z
          · omega
          · exact z.2.2.1
        rcases b5 with z | ⟨z1, z2⟩
        · omega
        obtain ⟨w1, w2, w3, w4, w5, _⟩ := z2
        rw [z1] at w3
        have e := ev
        unfold add at e
        rw [if_neg (by omega)] at e
        simp only [har] at e
        rw [if_neg (by omega), if_neg (by omega), if_neg (by omega), w3, if_neg (by omega)] at e
        injection e with e
        have e9 : v.nodes = s1.nodes ++ [(op, 0, ((s1.nodes.length - 1 - k1 : Nat) : Int), ((s1.nodes.length - 1 : Nat) : Int))] := by rw [← e]
        rw [hy] at e9
        have e8 := List.append_cancel_left e9
        injection e8 with e8 _
        rw [e8, hlen, show N2.length - 1 - k1 = N.length - 1 by omega]
      · -- many nodes: nothing is added
        have e := ev
        unfold add at e
        rw [if_pos (by omega)] at e
        injection e with e
        rw [← e] at hy
        have := congrArg List.length hy
        simp at this
    show AnQ _ ((add op 0 s1).bind fun u => lp op tok G m ts1 u) (lpq op tok H m ts1 (N2 ++ [(op, 0, ((N.length - 1 : Nat) : Int), ((N2.length - 1 : Nat) : Int))]) u2)
    rw [ev]
    refine (lp_q hop HG m ts1 v _ u2 n0 ks (by omega) (by omega) ⟨Nat.le_refl _, ht1, hrn, by simp; omega, _, hv, fun q => ?_⟩).mono (fun ts3 s3 N3 u3 q => ⟨by have := q.1; omega, q.2⟩)
    rw [List.length_append, List.length_singleton] at *
    have := b6 (by omega)
    have := hk (by omega)
    omega
theorem sq_q {op : Int} (hop : op = 4 ∨ op = 5) {tok : List UInt8} {G : Tks → PSt → POut (Tks × PSt)} {H : Tks → List Fi → Bool → QOut} {n : Nat} (HG : ∀ ts, ts.length < n → QR G H ts) : ∀ ts, ts.length < n → QR (sq op tok G) (sqq op tok H) ts := by
  intro ts hn s N u ks ht hr hs
  unfold sq sqq
  refine (HG ts hn s N u ks ht hr hs).bind (fun ts1 s1 N1 u1 q => ?_)
  refine (lp_q hop HG (ts1.length + 1) ts1 s1 N1 u1 N.length ks (by omega) (by have := q.1; omega) ⟨Nat.le_refl _, q.2⟩).mono (fun ts3 s3 N3 u3 z => ⟨by have := z.1; have := q.1; omega, z.2⟩)
theorem idT_no {t : List UInt8} (h : idT t) : t ≠ [33] ∧ t ≠ [40] ∧ ¬ (t = [38, 38] ∨ t = [124, 124] ∨ t = [41] ∨ t = []) := by
  cases t with
  | nil => exact h.elim
  | cons b x =>
    obtain ⟨h1, h2, h3, h4, h5, h6⟩ := lt_blk h.1
    refine ⟨fun e => ?_, fun e => ?_, ?_⟩
    · injection e with e; exact h4 e
    · injection e with e; exact h5 e
    · rintro (e | e | e | e)
      · injection e with e; exact h2 e
      · injection e with e; exact h3 e
      · injection e with e; exact h6 e
      · cases e
theorem leaf_q {op v v' : Int} (har : ar op = 0) {s s0 : PSt} {N : List Fi} {u u' : Bool} {ks : List Nat} {ts : Tks} {m : Nat} (hs0 : s0.nodes = s.nodes ∧ s0.sizes = s.sizes ∧ s0.unk = u') (hu : u' = false → u = false ∧ v = v') (hm : ts.length ≤ m) (ht : ∀ t ∈ ts, tkO t) (hr : RnQ s N u) (hs : StkW ks s) :
    AnQ (QP N.length ks m) ((add op v s0).bind fun u => .ok (ts, u)) (some (ts, N ++ [(op, v', 0, 0)], u')) := by
  have hs' : StkW ks s0 := by unfold StkW; rw [hs0.1, hs0.2.1]; exact hs
  have hr' : RnQ s0 N u' := by
    refine ⟨hs0.2.2, ?_⟩
    rw [hs0.1, hs0.2.1]
    rcases hr.2 with z | ⟨z1, z2, z3, z4⟩
    · exact .inl z
    · exact .inr ⟨z1, z2, z3, fun q => z4 (hu q).1⟩
  obtain ⟨w, ew, hw, _⟩ := add0_st (op := op) (v := v) har hs'
  rw [ew]
  refine ⟨rfl, hm, ht, rn_add hr' ew _ (fun hlen hb y hy => ?_), by simp, 1, hw, fun q => by simp⟩
  have e := ew
  unfold add at e
  split at e
  · injection e with e
    rw [← e] at hy
    have := congrArg List.length hy
    simp at this
  · simp only [har, if_true] at e
    injection e with e
    have e9 : w.nodes = s0.nodes ++ [(op, v, 0, 0)] := by rw [← e]
    rw [hy] at e9
    have e8 := List.append_cancel_left e9
    injection e8 with e8 _
    rw [e8, (hu hb).2]
theorem rdF_q (L : Tks) : ∀ n ts, ts.length < n → QR (rdF L n) (rqF L n) ts
  | 0, _, h => by omega
  | n + 1, [], h => fun s N u ks _ _ _ => trivial
  | n + 1, t :: ts, h => by
    intro s N u ks ht hr hs
    simp only [List.length_cons] at h
    have htt : ∀ t ∈ ts, tkO t := fun t' h' => ht t' (by simp [h'])
    rw [rdF, rqF]
    by_cases h1 : t = [33]
    · rw [if_pos h1, if_pos h1]
      refine (rdF_q L n ts (by omega) s N u ks htt hr hs).bind (fun ts1 s1 N1 u1 q => ?_)
      obtain ⟨b2, ht1, b3, b4, k1, b5, b6⟩ := q
      obtain ⟨v, ev, hv, _⟩ := add1_st (op := 3) (v := 0) rfl b5
      show AnQ _ ((add 3 0 s1).bind fun u => .ok (ts1, u)) (some (ts1, N1 ++ [(3, 0, ((N1.length - 1 : Nat) : Int), 0)], u1))
      rw [ev]
      refine ⟨rfl, by simp only [List.length_cons]; omega, ht1, rn_add b3 ev _ (fun hlen hb y hy => ?_), by simp; omega, _, hv, fun q => ?_⟩
      · have e := ev
        unfold add at e
        split at e
        · injection e with e
          rw [← e] at hy
          have := congrArg List.length hy
          simp at this
        · have ha : ar 3 = 1 := rfl
          simp only [ha] at e
          rw [if_neg (by omega), if_neg (by omega), if_pos trivial] at e
          injection e with e
          have e9 : v.nodes = s1.nodes ++ [(3, 0, ((s1.nodes.length - 1 : Nat) : Int), 0)] := by rw [← e]
          rw [hy] at e9
          have e8 := List.append_cancel_left e9
          injection e8 with e8 _
          rw [e8, hlen]
      · rw [List.length_append, List.length_singleton] at *
        have := b6 (by omega)
        omega
    rw [if_neg h1, if_neg h1]
    by_cases h2 : t = [40]
    · rw [if_pos h2, if_neg (by rw [h2]; decide), if_neg (by rw [h2]; decide), if_pos h2]
      have HE : QR (sq 5 [124, 124] (sq 4 [38, 38] (rdF L n))) (sqq 5 [124, 124] (sqq 4 [38, 38] (rqF L n))) ts := sq_q (.inr rfl) (sq_q (.inl rfl) (rdF_q L n)) ts (by omega)
      refine (HE s N u ks htt hr hs).bind (fun ts1 s1 N1 u1 q => ?_)
      obtain ⟨b2, ht1, b3, b4, b5⟩ := q
      dsimp only
      by_cases c : ts1.head? = some [41]
      · rw [if_pos c, if_pos c]
        exact ⟨rfl, by simp only [List.length_cons, List.length_tail]; omega, fun t h => ht1 t (List.mem_of_mem_tail h), b3, b4, b5⟩
      · rw [if_neg c, if_neg c]
        exact trivial
    rw [if_neg h2]
    by_cases h3 : t = [38, 38] ∨ t = [124, 124] ∨ t = [41] ∨ t = []
    · rw [if_pos h3, if_neg (by rcases h3 with q | q | q | q <;> rw [q] <;> decide), if_neg (by rcases h3 with q | q | q | q <;> rw [q] <;> decide), if_neg h2, if_neg (by rcases h3 with q | q | q | q <;> rw [q] <;> decide)]
      exact trivial
    rw [if_neg h3]
    have hid : idT t := by
      rcases ht t (by simp) with q | q | q | q | q | q
      · exact absurd q h1
      · exact absurd q h2
      · exact absurd (.inr (.inr (.inl q))) h3
      · exact absurd (.inl q) h3
      · exact absurd (.inr (.inl q)) h3
      · exact q
    unfold wrd
    by_cases h4 : t = [116, 114, 117, 101]
    · rw [if_pos h4, if_pos h4]
      exact leaf_q (op := 1) rfl ⟨rfl, rfl, hr.1⟩ (fun q => ⟨q, rfl⟩) (by simp) htt hr hs
    rw [if_neg h4, if_neg h4]
    by_cases h5 : t = [102, 97, 108, 115, 101]
    · rw [if_pos h5, if_pos h5]
      exact leaf_q (op := 0) rfl ⟨rfl, rfl, hr.1⟩ (fun q => ⟨q, rfl⟩) (by simp) htt hr hs
    rw [if_neg h5, if_neg h5, if_neg h2, if_pos hid]
    refine leaf_q (s := s) (u' := u || decide (ixL L t < 0)) (op := 2) rfl ⟨rfl, rfl, by show (s.unk || _) = _; rw [hr.1]⟩ (fun q => ?_) (by simp) htt hr hs
    rw [Bool.or_eq_false_iff, decide_eq_false_iff_not] at q
    exact ⟨q.1, by rw [if_neg q.2]⟩
theorem tk_ok : ∀ (ts : Tks) (r : List UInt8), Tk ts r → ∀ t ∈ ts, tkO t
  | [], _, _, _, h => by cases h
  | t :: ts, r, ⟨hne, r', hx, hk⟩, t', h => by
    rcases List.mem_cons.1 h with q | q
    rotate_left
    · exact tk_ok ts r' hk t' q
    subst q
    unfold nxt at hx
    simp only at hx
    rw [Option.map_eq_some_iff] at hx
    obtain ⟨n, hn, e⟩ := hx
    injection e with e1 e2
    generalize r.dropWhile blk8 = d at *
    cases d with
    | nil => simp at e1; exact absurd e1 (fun q => hne q)
    | cons b x =>
      unfold tkN at hn
      simp only at hn
      split at hn
      · rename_i q
        injection hn with hn
        subst hn
        cases x with
        | nil => cases q.2
        | cons c y =>
          have : c = 38 := by injection q.2
          rw [← e1, q.1, this]
          exact .inr (.inr (.inr (.inl rfl)))
      split at hn
      · rename_i q
        injection hn with hn
        subst hn
        cases x with
        | nil => cases q.2
        | cons c y =>
          have : c = 124 := by injection q.2
          rw [← e1, q.1, this]
          exact .inr (.inr (.inr (.inr (.inl rfl))))
      split at hn
      · rename_i q
        injection hn with hn
        subst hn
        rw [← e1]
        rcases q with q | q | q
        · exact .inl (by rw [q]; rfl)
        · exact .inr (.inl (by rw [q]; rfl))
        · exact .inr (.inr (.inl (by rw [q]; rfl)))
      split at hn
      · rename_i q
        injection hn with hn
        subst hn
        have ew : wlN (b :: x) = 1 + (x.takeWhile (fun c => lt8 c || dg8 c)).length := if_pos q
        rw [← e1, ew, Nat.add_comm, List.take_succ_cons, (List.prefix_iff_eq_take.1 (List.takeWhile_prefix _)).symm]
        exact .inr (.inr (.inr (.inr (.inr ⟨q, fun c hc => mem_tw (p := fun c => lt8 c || dg8 c) hc⟩))))
      · cases hn
/-- what the reference's Parse answers, given the tokens -/
def refT (L : Tks) (ts : Tks) : List Fi × Int := match rqE L (ts.length + 1) ts [] false with
  | some (ts', N, u) => if ts' ≠ [] then ([], 31) else if u then ([], 3) else if 512 < N.length then ([], 2) else (N, 0)
  | none => ([], 31)
/-- what the code's Parse answers, given its state -/
def stV (o : POut PSt) : List Fi × Int := match o with
  | .ok st => if st.unk then ([], 3) else if 512 < st.nodes.length then ([], 2) else (st.nodes, 0)
  | _ => ([], 31)
theorem stV_tk (L : Tks) {ts : Tks} {r : List UInt8} (h : Tk ts r) : stV (prs L r) = refT L ts := by
  have HE : QR (rdE L (ts.length + 1)) (rqE L (ts.length + 1)) ts := sq_q (.inr rfl) (sq_q (.inl rfl) (rdF_q L _)) ts (by omega)
  have q := HE stZ [] false [] (tk_ok ts r h) ⟨rfl, .inr ⟨by decide, rfl, rfl, fun _ => rfl⟩⟩ (.inr ⟨rfl, rfl⟩)
  rw [prs_rd L h]
  unfold refT
  rcases e1 : rdE L (ts.length + 1) ts stZ with ⟨ts1, s1⟩ | _ | _ <;> rcases e2 : rqE L (ts.length + 1) ts [] false with _ | ⟨ts2, N2, u2⟩ <;> rw [e1, e2] at q
  all_goals try exact q.elim
  rotate_left
  · rfl
  obtain ⟨c1, c2, c3, c4, c5⟩ := q
  subst c1
  dsimp only
  by_cases c : ts1 = []
  rotate_left
  · rw [if_neg c, if_pos c]; rfl
  rw [if_pos c, if_neg (fun q => q c)]
  unfold stV
  dsimp only
  show (if s1.unk then _ else if 512 < s1.nodes.length then _ else (s1.nodes, _)) = _
  rw [c4.1]
  cases u2
  · rcases c4.2 with z | ⟨z1, z2, z3, z4⟩
    · simp only [Bool.false_eq_true, if_false]
      rw [if_pos z.2, if_pos z.1]
    · simp only [Bool.false_eq_true, if_false]
      rw [if_neg (by omega), if_neg (by omega), z4 rfl]
  · rfl
theorem stV_none (L : Tks) {r : List UInt8} (h : ∀ ts, ¬ Tk ts r) : stV (prs L r) = ([], 31) := by
  rcases e : prs L r with st | _ | _
  · obtain ⟨ts, hk⟩ := prs_lex e
    exact absurd hk (h ts)
  · rfl
  · rfl

end Go.Proofs.YtignkplogkaigaaDoor
