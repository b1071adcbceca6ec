/-
  Plain mathematics and contracts of package diagram, several texts in one: XMd, XMk.
-/
import Derived.Test.YtfkljlncnfeklaaGreatDoorPq
import Derived.Test.YtfkljlncnfeklaaGreatDoorPl
import Derived.Test.YtfkljlncnfeklaaGreatDoorPa
import Derived.Lib.MinMax

/-! The reference's Made: a stack of expressions. -/
namespace Go.Proofs.YtfkljlncnfeklaaGreatDoor
open Go.RowKit Go.Shelf
set_option linter.unusedVariables false
set_option linter.unusedSimpArgs false
attribute [local go_sem ↓] Go.wp_at_zero Go.wp_at_succ

/-- a slice of bytes reads as a list -/
structure B8 (w : World) (B : Nat) (A : Option Addr) (n : Nat) (l : List Nat) : Prop where
  len : l.length = n
  lt : ∀ x ∈ l, x < 256
  rd : 0 < n → ∃ b o, A = some ⟨b, o, none⟩ ∧ b < B ∧ ∀ j, j < n → w.cell? ⟨b, o + j, none⟩ = some (.int .u8 ((l.getD j 0 : Nat) : Int))
theorem B8.below {w w' : World} {B : Nat} {A : Option Addr} {n : Nat} {l : List Nat} (h : B8 w B A n l) (hb : Below B w w') : B8 w' B A n l :=
  ⟨h.len, h.lt, fun h0 => by
    obtain ⟨b, o, e, hlt, hc⟩ := h.rd h0
    exact ⟨b, o, e, hlt, fun j hj => (hb.cell (p := ⟨b, o + j, none⟩) hlt).trans (hc j hj)⟩⟩
theorem B8.mono {w : World} {B B' : Nat} {A : Option Addr} {n : Nat} {l : List Nat} (h : B8 w B A n l) (hB : B ≤ B') : B8 w B' A n l :=
  ⟨h.len, h.lt, fun h0 => by
    obtain ⟨b, o, e, hlt, hc⟩ := h.rd h0
    exact ⟨b, o, e, by omega, hc⟩⟩
theorem B8.byte {w : World} {B : Nat} {A : Option Addr} {n : Nat} {l : List Nat} (h : B8 w B A n l) (j : Nat) : l.getD j 0 < 256 := by
  by_cases hj : j < l.length
  · rw [List.getD_eq_getElem?_getD, List.getElem?_eq_getElem hj]
    exact h.lt _ (List.getElem_mem _)
  · rw [List.getD_eq_getElem?_getD, List.getElem?_eq_none (by omega)]
    decide
theorem B8.later {w w' : World} {A : Option Addr} {n : Nat} {l : List Nat} (h : Hid (B8 w w.heap.size A n l)) (hb : Below w.heap.size w w') : Hid (B8 w' w'.heap.size A n l) := Lib.hid ((h.out.below hb).mono hb.size)
theorem jnN_seq (a b : Rx) : jnN 2 (a.po []) (b.po []) = (Rx.seq a b).po [] := by
  have pa := a.nn_pos
  have pb := b.nn_pos
  have la := po_len a []
  have lb := po_len b []
  rw [List.length_nil, Nat.zero_add] at la lb
  have l1 := po_len b (a.po [])
  have e1 : ((a.po []).length : Int) - 1 = (((a.po []).length - 1 : Nat) : Int) := by omega
  have e2 : ((a.po []).length : Int) + ((b.po []).length : Int) - 1 = (((b.po (a.po [])).length - 1 : Nat) : Int) := by omega
  unfold jnN
  rw [← po_shift b (a.po []), e1, e2]
  rfl
theorem jnN_alt (a b : Rx) : jnN 3 (a.po []) (b.po []) = (Rx.alt a b).po [] := by
  have pa := a.nn_pos
  have pb := b.nn_pos
  have la := po_len a []
  have lb := po_len b []
  rw [List.length_nil, Nat.zero_add] at la lb
  have l1 := po_len b (a.po [])
  have e1 : ((a.po []).length : Int) - 1 = (((a.po []).length - 1 : Nat) : Int) := by omega
  have e2 : ((a.po []).length : Int) + ((b.po []).length : Int) - 1 = (((b.po (a.po [])).length - 1 : Nat) : Int) := by omega
  unfold jnN
  rw [← po_shift b (a.po []), e1, e2]
  rfl
theorem rep_po (a : Rx) : a.po [] ++ [(4, 0, 0, (((a.po []).length - 1 : Nat) : Int), 0)] = (Rx.rep a).po [] := rfl
theorem po_fld : ∀ (r : Rx) (o : List Pn) (B : Nat), (∀ x ∈ o, (0 ≤ x.2.2.2.1 ∧ x.2.2.2.1 ≤ (B : Int)) ∧ 0 ≤ x.2.2.2.2 ∧ x.2.2.2.2 ≤ (B : Int)) → (r.po o).length ≤ B → ∀ x ∈ r.po o, (0 ≤ x.2.2.2.1 ∧ x.2.2.2.1 ≤ (B : Int)) ∧ 0 ≤ x.2.2.2.2 ∧ x.2.2.2.2 ≤ (B : Int)
  | .emp, o, B, ho, hB, x, hx => by
    rcases List.mem_append.1 hx with q | q
    · exact ho x q
    · obtain rfl := by simpa using q
      dsimp only; omega
  | .rng lo hi, o, B, ho, hB, x, hx => by
    rcases List.mem_append.1 hx with q | q
    · exact ho x q
    · obtain rfl := by simpa using q
      dsimp only; omega
  | .seq a b, o, B, ho, hB, x, hx => by
    have l0 := po_len (.seq a b) o
    have l1 := po_len a o
    have l2 := po_len b (a.po o)
    have e : (Rx.seq a b).nn = a.nn + b.nn + 1 := rfl
    rcases List.mem_append.1 hx with q | q
    · exact po_fld b (a.po o) B (po_fld a o B ho (by omega)) (by omega) x q
    · obtain rfl := by simpa using q
      dsimp only; omega
  | .alt a b, o, B, ho, hB, x, hx => by
    have l0 := po_len (.alt a b) o
    have l1 := po_len a o
    have l2 := po_len b (a.po o)
    have e : (Rx.alt a b).nn = a.nn + b.nn + 1 := rfl
    rcases List.mem_append.1 hx with q | q
    · exact po_fld b (a.po o) B (po_fld a o B ho (by omega)) (by omega) x q
    · obtain rfl := by simpa using q
      dsimp only; omega
  | .rep a, o, B, ho, hB, x, hx => by
    have l0 := po_len (.rep a) o
    have l1 := po_len a o
    have e : (Rx.rep a).nn = a.nn + 1 := rfl
    rcases List.mem_append.1 hx with q | q
    · exact po_fld a o B ho (by omega) x q
    · obtain rfl := by simpa using q
      dsimp only; omega
theorem po_flds (r : Rx) (h : (r.po []).length ≤ 50000) : ∀ j, j < (r.po []).length → 0 ≤ pa (r.po []) j ∧ pa (r.po []) j ≤ 1000000 ∧ 0 ≤ pb (r.po []) j ∧ pb (r.po []) j ≤ 1000000 := fun j hj => by
  have hm : (r.po []).getD j (0, 0, 0, 0, 0) ∈ r.po [] := by
    rw [List.getD_eq_getElem?_getD, List.getElem?_eq_getElem hj]
    exact List.getElem_mem hj
  have := po_fld r [] (r.po []).length (fun x hx => by cases hx) (Nat.le_refl _) _ hm
  unfold pa pb
  omega
/-- the stack in memory, its last expression first in st -/
structure MkM (w W : World) (v : Value) (vs : List Value) (st : List Rx) : Prop where
  own : W.ownsRow w.heap.size 25 1 v vs.length vs
  len : vs.length = st.length
  rd : ∀ (i : Nat) (r : Rx), st.reverse[i]? = some r → ∃ u, vs[i]? = some u ∧ W.ownsRow w.heap.size 42 5 u (r.po []).length (pnC (r.po []))
  b : Below w.heap.size w W
section
variable {w W W' Wa : World} {v u : Value} {vs : List Value} {st : List Rx} {r : Rx}
theorem MkM.later (h : MkM w W v vs st) (hb : Below W.heap.size W W') : MkM w W' v vs st :=
  ⟨own_block h.own (fun k hk => hb.block k (World.ownsRow.lt h.own k hk).2), h.len, fun i r hr => by
    obtain ⟨u, h1, h2⟩ := h.rd i r hr
    exact ⟨u, h1, own_block h2 (fun k hk => hb.block k (World.ownsRow.lt h2 k hk).2)⟩, h.b.trans (hb.mono h.b.size)⟩
theorem MkM.push (h : MkM w W v vs st) (hb : Below W.heap.size W Wa) (hu : Wa.ownsRow w.heap.size 42 5 u (r.po []).length (pnC (r.po []))) {g cap : Nat}
    (hown : W'.ownsRow w.heap.size 25 1 (.slice (some ⟨g, 0, none⟩) (vs.length + 1) cap) (vs.length + 1) (vs ++ [u])) (hg : Wa.grownBy W' v.ownBlock) : MkM w W' (.slice (some ⟨g, 0, none⟩) (vs.length + 1) cap) (vs ++ [u]) (r :: st) := by
  have h1 := h.later hb
  have keep : ∀ {u : Value} {m : Nat} {xs : List Value}, Wa.ownsRow w.heap.size 42 5 u m xs → W'.ownsRow w.heap.size 42 5 u m xs := fun q =>
    own_block q (fun k hk => hg.block k (World.ownsRow.lt q k hk).2 (fun e => own_ty h1.own q (by decide) e.symm hk))
  refine ⟨by rw [List.length_append]; exact hown, by rw [List.length_append, List.length_cons, h.len]; rfl, fun i r' hr => ?_, h1.b.grown hg h1.b.size (fun k hk => (World.ownsRow.lt h1.own k hk).1)⟩
  rw [List.reverse_cons] at hr
  rcases (get_app _ _ _ _).1 hr with q | ⟨q1, q⟩
  · obtain ⟨u', k1, k2⟩ := h1.rd i r' q
    have := (List.getElem?_eq_some_iff.1 k1).1
    exact ⟨u', by rw [List.getElem?_append_left this]; exact k1, keep k2⟩
  · subst q
    rw [List.length_reverse, ← h.len] at q1
    subst q1
    exact ⟨u, by rw [List.getElem?_append_right (Nat.le_refl _), Nat.sub_self]; rfl, keep hu⟩
theorem own_takeP {w : World} {B e n k : Nat} {A : Option Addr} {c : Nat} {xs : List Value} (h : w.ownsRow B e 1 (.slice A n c) n xs) (hl : xs.length = n) (hk : k ≤ n) (h0 : 0 < n) : w.ownsRow B e 1 (.slice A k c) k (xs.take k) := by
  rcases h.2 with ⟨_, e⟩ | ⟨q, cap, cur, e, hB, hq, hc, hm, hsz, ht⟩
  · omega
  · injection e with e1 e2 e3
    subst e1; subst e3
    refine ⟨by rw [List.length_take]; omega, .inr ⟨q, c, cur, rfl, hB, hq, by omega, hm, hsz, ?_⟩⟩
    rw [← ht, List.take_take]
    congr 1
    omega
theorem MkM.cut {A : Option Addr} {n c : Nat} {a b : Rx} {t : List Rx} (h : MkM w W (.slice A (n + 2) c) vs (b :: a :: t)) (hn : vs.length = n + 2) : MkM w W (.slice A n c) (vs.take n) t := by
  have ho := h.own
  rw [hn] at ho
  have h2 := own_takeP (k := n) ho hn (by omega) (by omega)
  have hl : (vs.take n).length = n := by rw [List.length_take]; omega
  have hlt : t.length = n := by have := h.len; simp at this; omega
  refine ⟨by rw [hl]; exact h2, by rw [hl, hlt], fun i r hr => ?_, h.b⟩
  have hi : i < n := by
    have := (List.getElem?_eq_some_iff.1 hr).1
    rw [List.length_reverse] at this
    omega
  obtain ⟨u, k1, k2⟩ := h.rd i r (by
    rw [List.reverse_cons, List.reverse_cons, List.append_assoc, List.getElem?_append_left (by rw [List.length_reverse]; omega)]
    exact hr)
  exact ⟨u, by rw [List.getElem?_take, if_pos hi]; exact k1, k2⟩
theorem MkM.put {q n c : Nat} {a : Rx} {t : List Rx} (h : MkM w W (.slice (some ⟨q, 0, none⟩) (n + 1) c) vs (a :: t)) (hn : vs.length = n + 1) (hu : W.ownsRow w.heap.size 42 5 u (r.po []).length (pnC (r.po []))) : MkM w (W.setCell ⟨q, n, none⟩ u) (.slice (some ⟨q, 0, none⟩) (n + 1) c) (vs.set n u) (r :: t) := by
  have ho := h.own
  rw [hn] at ho
  obtain ⟨h1, h2⟩ := World.ownsRow.stored ho n u
  have keep : ∀ {u' : Value} {m : Nat} {xs : List Value}, W.ownsRow w.heap.size 42 5 u' m xs → (W.setCell ⟨q, n, none⟩ u).ownsRow w.heap.size 42 5 u' m xs := fun k => World.ownsRow.kept k h2 (by
    rcases hk : Value.ownBlock _ with _ | j
    · exact .inl rfl
    · right
      intro e
      exact own_ty ho k (by decide) (by rw [e]; rfl) hk)
  have hlt : t.length = n := by have := h.len; simp at this; omega
  refine ⟨by rw [List.length_set, hn]; exact h1, by rw [List.length_set, hn, List.length_cons, hlt], fun i r' hr => ?_, h.b.setCell (p := ⟨q, n, none⟩) (World.ownsRow.lt ho q rfl).1 _⟩
  rw [List.reverse_cons] at hr
  rcases (get_app _ _ _ _).1 hr with k | ⟨k1, k⟩
  · have hi : i < n := by
      have := (List.getElem?_eq_some_iff.1 k).1
      rw [List.length_reverse] at this
      omega
    obtain ⟨u', k1, k2⟩ := h.rd i r' (by rw [List.reverse_cons, List.getElem?_append_left (by rw [List.length_reverse]; omega)]; exact k)
    exact ⟨u', by rw [List.getElem?_set_ne (by omega)]; exact k1, keep k2⟩
  · subst k
    rw [List.length_reverse, hlt] at k1
    subst k1
    exact ⟨u, by rw [List.getElem?_set_self (by omega)], keep hu⟩
/-- an element of the stack -/
theorem MkM.at {q n c : Nat} (h : MkM w W (.slice (some ⟨q, 0, none⟩) n c) vs st) (hn : vs.length = n) {i : Nat} {r : Rx} (hr : st.reverse[i]? = some r) : ∃ A c', W.cell? ⟨q, i, none⟩ = some (.slice A (r.po []).length c') ∧ Rp W W.heap.size A (r.po []) ∧ W.ownsRow w.heap.size 42 5 (.slice A (r.po []).length c') (r.po []).length (pnC (r.po [])) := by
  obtain ⟨u, k1, k2⟩ := h.rd i r hr
  obtain ⟨A, c', rfl, hrp⟩ := rp_own k2 rfl
  have hi := (List.getElem?_eq_some_iff.1 k1).1
  have ho := h.own
  rw [hn] at ho
  exact ⟨A, c', (World.ownsRow.cellAt ho i (by omega)).trans k1, hrp, k2⟩
end
theorem Tryz.infoPat : (Tryz.prog.info? 25).map (fun i => (i.zero, i.size, i.bytes)) = some (some (.slice none 0 0), 1, 24) := by kernel_rfl

end Go.Proofs.YtfkljlncnfeklaaGreatDoor

/-! The reference's Made: the walk. (Written by madgen.py.) -/
namespace Go.Proofs.YtfkljlncnfeklaaGreatDoor
open Go.RowKit Go.Shelf
set_option linter.unusedVariables false
set_option linter.unusedSimpArgs false
attribute [local go_sem ↓] Go.wp_at_zero Go.wp_at_succ
attribute [local go_sem] stIn stAt stUpon

theorem k_empty (w : World) : Calls Tryz.prog 24 #[] w fun e w' => ∃ A c, e = .returned (.slice A 1 c) ∧ Hid (w'.ownsRow w.heap.size 42 5 (.slice A 1 c) (Rx.emp.po []).length (pnC (Rx.emp.po [])) ∧ Below w.heap.size w w') :=
  (rempty_any w).mono fun e w' h => by
    obtain ⟨h1, rfl⟩ := h
    exact ⟨_, _, h1, lid' ⟨World.ownsRow_lit w _ 1 (Nat.le_refl _) (by decide) rfl, (Below.refl _ w).alloc (Nat.le_refl _) _⟩⟩
theorem k_one (lo hi : Nat) (z z' : Int) (hz : z = (lo : Int)) (hz' : z' = (hi : Int)) (w : World) : Calls Tryz.prog 25 #[.int .i64 z, .int .i64 z'] w fun e w' => ∃ A c, e = .returned (.slice A 1 c) ∧ Hid (w'.ownsRow w.heap.size 42 5 (.slice A 1 c) ((Rx.rng lo hi).po []).length (pnC ((Rx.rng lo hi).po [])) ∧ Below w.heap.size w w') := by
  subst hz; subst hz'
  exact (rone_any (lo : Int) (hi : Int) w).mono fun e w' h => by
    obtain ⟨h1, rfl⟩ := h
    exact ⟨_, _, h1, lid' ⟨World.ownsRow_lit w _ 1 (Nat.le_refl _) (by decide) rfl, (Below.refl _ w).alloc (Nat.le_refl _) _⟩⟩
theorem k_rep (a : Rx) (A : Option Addr) (c : Nat) (w : World) (hr : Hid (Rp w w.heap.size A (a.po []))) (h2 : a.nn ≤ 40000) : Calls Tryz.prog 26 #[.slice A (a.po []).length c] w fun e w' => ∃ A' c', e = .returned (.slice A' ((Rx.rep a).po []).length c') ∧ Hid (w'.ownsRow w.heap.size 42 5 (.slice A' ((Rx.rep a).po []).length c') ((Rx.rep a).po []).length (pnC ((Rx.rep a).po [])) ∧ Below w.heap.size w w') :=
  (rrepeat_any A _ c (a.po []) w (lid' rfl) hr (by have := po_len a []; have := a.nn_pos; omega) (by have := po_len a []; rw [List.length_nil] at this; omega)).mono fun e w' h => by
    obtain ⟨v, h1, h3, h4⟩ := h
    rw [rep_po] at h3
    obtain ⟨A', c', rfl, _⟩ := own_form h3
    exact ⟨A', c', h1, lid' ⟨h3, h4⟩⟩
theorem k_join (k : Int) (a b r : Rx) (hk : jnN k (a.po []) (b.po []) = r.po []) (A A' : Option Addr) (c c' : Nat) (w : World) (hr : Hid (Rp w w.heap.size A (a.po []))) (hr' : Hid (Rp w w.heap.size A' (b.po []))) (h1 : a.nn ≤ 40000) (h2 : b.nn ≤ 40000) : Calls Tryz.prog 27 #[.int .i64 k, .slice A (a.po []).length c, .slice A' (b.po []).length c'] w fun e w' => ∃ A' c', e = .returned (.slice A' (r.po []).length c') ∧ Hid (w'.ownsRow w.heap.size 42 5 (.slice A' (r.po []).length c') (r.po []).length (pnC (r.po [])) ∧ Below w.heap.size w w') := by
  have l1 := po_len a []
  have l2 := po_len b []
  have := a.nn_pos
  rw [List.length_nil, Nat.zero_add] at l1 l2
  exact (rjoin_any k A A' _ c _ c' (a.po []) (b.po []) w (lid' rfl) (lid' rfl) hr hr' (by omega) (by omega) (by omega) (po_flds b (by omega))).mono fun e w' h => by
    obtain ⟨v, h1, h3, h4⟩ := h
    rw [hk] at h3
    obtain ⟨A', c', rfl, _⟩ := own_form h3
    exact ⟨A', c', h1, lid' ⟨h3, h4⟩⟩
theorem mkL_snoc (most x : Nat) (l : List Nat) (s : List Rx × Nat) (h : s.2 + 2 < most) : mkL most (x :: l) s = mkL most l (mkS x s) := by rw [mkL, if_pos h]
theorem mkL_stop (most : Nat) : ∀ (l : List Nat) (s : List Rx × Nat), ¬ s.2 + 2 < most → mkL most l s = s
  | [], _, _ => rfl
  | x :: l, s, h => by rw [mkL, if_neg h]
theorem sumN_mem : ∀ (st : List Rx) {r : Rx}, r ∈ st → r.nn + 1 ≤ sumN st
  | a :: t, r, h => by
    show r.nn + 1 ≤ a.nn + 1 + sumN t
    rcases List.mem_cons.1 h with rfl | h
    · omega
    · have := sumN_mem t h; omega
theorem sumN_len : ∀ (st : List Rx), st.length ≤ sumN st
  | [] => Nat.le_refl _
  | a :: t => by
    show t.length + 1 ≤ a.nn + 1 + sumN t
    have := sumN_len t; omega
/-- the round's state: k numbers have been read -/
structure MkI (w wr : World) (most : Nat) (l : List Nat) (k : Nat) (v : Value) (vs : List Value) (st : List Rx) (sz : Nat) : Prop where
  m : MkM w wr v vs st
  e : mkL most l ([], 0) = mkL most (l.drop k) (st, sz)
  abc : ∀ r ∈ st, r.abc
  su : sumN st ≤ sz
  sm : sz ≤ most
theorem MkI.next {w wr wr' : World} {most k x sz : Nat} {l : List Nat} {v v' : Value} {vs vs' : List Value} {st st' : List Rx} {sz' : Nat} (h : MkI w wr most l k v vs st sz) (hk : k < l.length) (hx : l.getD k 0 = x) (hlt : sz + 2 < most) (hS : mkS x (st, sz) = (st', sz')) (hm : MkM w wr' v' vs' st') : MkI w wr' most l (k + 1) v' vs' st' sz' := by
  have ok := mkS_ok x (s := (st, sz)) h.abc h.su
  rw [hS] at ok
  refine ⟨hm, ?_, ok.1, ok.2.1, by have := ok.2.2; dsimp only at this; omega⟩
  rw [h.e, List.drop_eq_getElem_cons hk, mkL_snoc _ _ _ _ hlt]
  have : l[k] = x := by rw [← hx, List.getD_eq_getElem?_getD, List.getElem?_eq_getElem hk]; rfl
  rw [this, hS]
theorem mkR_fold (st : List Rx) (a : Rx) (t : List Rx) (h : st.reverse = a :: t) : mkR st.reverse = t.foldl (fun out r => .seq out r) a := by rw [h]; rfl

set_option maxHeartbeats 8000000 in
set_option maxRecDepth 100000 in
theorem rmade_any (A : Option Addr) (c nn most : Nat) (l : List Nat) (w : World) (h8 : Hid (B8 w w.heap.size A nn l)) (hnn : nn ≤ 9223372036854775807) (hn1 : 1 ≤ most) (hn2 : most ≤ 64) :
    Calls Tryz.prog 7 #[.slice A nn c, .int .i64 (most : Int)] w fun e w' => ∃ A' c', e = .returned (.slice A' ((madeR l most).po []).length c') ∧ Hid (w'.ownsRow w.heap.size 42 5 (.slice A' ((madeR l most).po []).length c') ((madeR l most).po []).length (pnC ((madeR l most).po [])) ∧ Below w.heap.size w w') := by
  obtain ⟨i0, hi, hz0, hz1, hz2⟩ := info_parts Tryz.infoPat
  have hl := h8.out.len
  have HL := lid' hl
  clear hl
  have HB0 := lid' ((Below.refl w.heap.size w).alloc (Nat.le_refl _) (.cells #[] 25))
  have HO0 := lid' (World.ownsRow_lit (base := w.heap.size) (size := 1) (e := 25) w #[] 0 (Nat.le_refl _) (by decide) rfl)
  go_enter Tryz.func7, Tryz.ntmps7
  go_upto_region 2 with fail
  have HS0 : Hid (MkI w (w.alloc (.cells #[] 25)) most l 0 (.slice (some ⟨w.heap.size, 0, none⟩) 0 0) [] [] 0) := lid' ⟨⟨HO0.out, rfl, fun i r h => (by cases h), HB0.out⟩, rfl, fun r h => (by cases h), Nat.le_refl _, Nat.zero_le _⟩
  clear HB0 HO0
  generalize World.alloc w _ = w1 at *
  go_wp2
  go_loopw [5, 6, 7] (fun v5 v6 v7 wr => ∃ (k n c sz : Nat) (A : Option Addr) (vs : List Value) (st : List Rx), v5 = .slice A n c ∧ vs.length = n ∧ v6 = .int .i64 (sz : Int) ∧ v7 = .int .i64 (k : Int) ∧ k ≤ nn ∧ Hid (MkI w wr most l k (.slice A n c) vs st sz)) (fun _ _ v7 _ => nn - (intOf v7).toNat)
  case atStart => exact ⟨0, 0, 0, 0, _, [], [], rfl, rfl, rfl, rfl, Nat.zero_le _, HS0⟩
  case round =>
    clear HS0
    obtain ⟨k, n, c5, sz, A5, vs, st, rfl, hvn, rfl, rfl, hk, HS⟩ := hrel
    have hst : st.length = n := by rw [← hvn]; exact HS.out.m.len.symm
    have hsz : sz ≤ 64 := Nat.le_trans HS.out.sm hn2
    have hn64 : n ≤ 64 := by
      have h1 := sumN_len st
      have h2 := HS.out.su
      omega
    by_cases hlt : k < nn ∧ sz + 2 < most
    · rename ∀ (a : Act) (w : World), Code.wp _ _ _ a w → _ => hKc
      clear hKc
      obtain ⟨hl1, hl2⟩ := hlt
      have i1 : (k : Int) < (nn : Int) := by omega
      have i2 : (sz : Int) + 2 < (most : Int) := by omega
      have i3 : (0 : Int) ≤ (k : Int) := by omega
      obtain ⟨b, o, eA, hb, hc⟩ := (h8.out.below HS.out.m.b).rd (by omega)
      subst eA
      have d0 := hc k hl1
      have hx := h8.out.byte k
      have HKL : Hid (k < l.length) := lid' (by rw [HL.out]; exact hl1)
      obtain ⟨x, hx0⟩ : ∃ x, l.getD k 0 = x := ⟨_, rfl⟩
      rw [hx0] at d0 hx
      have HX := lid' hx0
      clear hc hx0
      obtain ⟨q9, hq9⟩ : ∃ q9, q9 = x % 9 := ⟨_, rfl⟩
      have hq : q9 < 9 := by omega
      have e9 : (x : Int).tmod 9 = (q9 : Int) := by rw [Int.tmod_eq_emod_of_nonneg (by omega)]; omega
      have HQ := lid' hq9
      obtain ⟨d3, hd3⟩ : ∃ d3, d3 = x / 9 % 3 := ⟨_, rfl⟩
      obtain ⟨t9, ht9⟩ : ∃ t9, t9 = x / 9 := ⟨_, rfl⟩
      have e3 : (x : Int).tdiv 9 = (t9 : Int) := by rw [Int.tdiv_eq_ediv_of_nonneg (by omega)]; omega
      have e4 : (t9 : Int).tmod 3 = (d3 : Int) := by rw [Int.tmod_eq_emod_of_nonneg (by omega)]; omega
      obtain ⟨t27, ht27⟩ : ∃ t27, t27 = x / 27 := ⟨_, rfl⟩
      obtain ⟨f2, hf2⟩ : ∃ f2, f2 = x / 27 % 2 := ⟨_, rfl⟩
      have e5 : (x : Int).tdiv 27 = (t27 : Int) := by rw [Int.tdiv_eq_ediv_of_nonneg (by omega)]; omega
      have e6 : (t27 : Int).tmod 2 = (f2 : Int) := by rw [Int.tmod_eq_emod_of_nonneg (by omega)]; omega
      have ht9b : t9 < 256 := by omega
      have ht27b : t27 < 256 := by omega
      have hd30 : d3 < 3 := by omega
      have hf20 : f2 < 2 := by omega
      have HD := lid' hd3
      have HF := lid' hf2
      have HSZ := lid' HS.out.m.b.size
      have HBb := lid' (h8.out.below HS.out.m.b)
      have HONE := lid' (fun W => k_one (97 + d3) (min 99 (97 + d3 + f2)) (97 + (d3 : Int)) (min 99 (97 + (d3 : Int) + (f2 : Int))) (by omega) (by omega) W)
      clear hq9 hd3 ht9 ht27 hf2 hb
      by_cases ca : q9 < 5
      · have g1 : (q9 : Int) < 5 := by omega
        by_cases c4 : q9 = 4
        · subst c4
          have HP : Hid (mkS x (st, sz) = (.emp :: st, sz + 2)) := lid' (by
            unfold mkS
            dsimp only
            rw [← HQ.out, if_pos (by omega), ← HD.out, ← HF.out]
            rw [if_pos (by omega)])
          have HVN := lid' hvn
          clear hst hvn
          go_wp2_with (first
            | (go_at_call 24; with_reducible refine (k_empty wr).mono ?_; rintro e w2 ⟨A2, c2, rfl, hh⟩; have HU := lid' (own_mono hh.out.1 HSZ.out); have HB2 := lid' hh.out.2; have HM2 := lid' (HS.out.m.later hh.out.2); have HO2 : Hid (w2.ownsRow w.heap.size 25 1 (.slice A5 n c5) n vs) := lid' (by have := HM2.out.own; rw [HVN.out] at this; exact this); have HS2 := lid' HM2.out.b.size; clear hh)
            | (at_builtin; refine wpList_append_lies _ rfl _ _ _ rfl w.heap.size 25 i0 _ 1 24 Tryz.underlying43 hi hz0 hz1 hz2 rfl (by omega) (.slice A5 n c5) n vs rfl (HO2.out.alloc _) _ _ _ [.slice A2 1 c2] rfl rfl (World.news_of_block (heap_alloc_new _ _)) (by simp [Value.oneCell']) (by omega) (by simp only [maxLen]; omega) (by omega) (by have := HS2.out; simp; omega) _ rfl ?_; intro g3 c3 w3 hown hgrow hat hlt3; have hb3 := (Below.refl w2.heap.size w2).alloc (Nat.le_refl _) (.cells #[.slice A2 1 c2] 25); have HM3 := lid' (HM2.out.push (r := .emp) hb3 (own_block HU.out (fun k hk => hb3.block k (World.ownsRow.lt HU.out k hk).2)) (by rw [HVN.out]; exact hown) hgrow); rw [HVN.out] at HM3; clear hown hgrow hat hlt3 hb3))
          go_roundw
          case rel => exact ⟨k + 1, n + 1, c3, sz + 2, _, _, _, rfl, by rw [List.length_append, HVN.out]; rfl, by push_cast; rfl, rfl, hl1, lid' (HS.out.next HKL.out HX.out hl2 HP.out HM3.out)⟩
          case measure => simp only [intOf]; omega
        · have g2 : ((q9 : Int) == 4) = false := by simp; omega
          have HP : Hid (mkS x (st, sz) = ((.rng (97 + d3) (min 99 (97 + d3 + f2))) :: st, sz + 2)) := lid' (by
            unfold mkS
            dsimp only
            rw [← HQ.out, if_pos (by omega), ← HD.out, ← HF.out]
            rw [if_neg (by omega)])
          have HVN := lid' hvn
          clear hst hvn
          go_wp2_with (first
            | (go_at_call 25; with_reducible refine (HONE.out wr).mono ?_; rintro e w2 ⟨A2, c2, rfl, hh⟩; have HU := lid' (own_mono hh.out.1 HSZ.out); have HB2 := lid' hh.out.2; have HM2 := lid' (HS.out.m.later hh.out.2); have HO2 : Hid (w2.ownsRow w.heap.size 25 1 (.slice A5 n c5) n vs) := lid' (by have := HM2.out.own; rw [HVN.out] at this; exact this); have HS2 := lid' HM2.out.b.size; clear hh)
            | (at_builtin; refine wpList_append_lies _ rfl _ _ _ rfl w.heap.size 25 i0 _ 1 24 Tryz.underlying43 hi hz0 hz1 hz2 rfl (by omega) (.slice A5 n c5) n vs rfl (HO2.out.alloc _) _ _ _ [.slice A2 1 c2] rfl rfl (World.news_of_block (heap_alloc_new _ _)) (by simp [Value.oneCell']) (by omega) (by simp only [maxLen]; omega) (by omega) (by have := HS2.out; simp; omega) _ rfl ?_; intro g3 c3 w3 hown hgrow hat hlt3; have hb3 := (Below.refl w2.heap.size w2).alloc (Nat.le_refl _) (.cells #[.slice A2 1 c2] 25); have HM3 := lid' (HM2.out.push (r := (.rng (97 + d3) (min 99 (97 + d3 + f2)))) hb3 (own_block HU.out (fun k hk => hb3.block k (World.ownsRow.lt HU.out k hk).2)) (by rw [HVN.out]; exact hown) hgrow); rw [HVN.out] at HM3; clear hown hgrow hat hlt3 hb3))
          go_roundw
          case rel => exact ⟨k + 1, n + 1, c3, sz + 2, _, _, _, rfl, by rw [List.length_append, HVN.out]; rfl, by push_cast; rfl, rfl, hl1, lid' (HS.out.next HKL.out HX.out hl2 HP.out HM3.out)⟩
          case measure => simp only [intOf]; omega
      · have g1 : ¬ (q9 : Int) < 5 := by omega
        have g2 : ((q9 : Int) == 4) = false := by simp; omega
        by_cases cb : n = 0
        · have g3 : ((n : Int) == 0) = true := by simp; omega
          have HCB := lid' cb
          clear cb
          have HP : Hid (mkS x (st, sz) = ((.rng (97 + d3) (min 99 (97 + d3 + f2))) :: st, sz + 2)) := lid' (by
            unfold mkS
            dsimp only
            rw [← HQ.out, if_pos (by have hz := HCB.out; omega), ← HD.out, ← HF.out]
            rw [if_neg (by omega)])
          have HVN := lid' hvn
          clear hst hvn
          go_wp2_with (first
            | (go_at_call 25; with_reducible refine (HONE.out wr).mono ?_; rintro e w2 ⟨A2, c2, rfl, hh⟩; have HU := lid' (own_mono hh.out.1 HSZ.out); have HB2 := lid' hh.out.2; have HM2 := lid' (HS.out.m.later hh.out.2); have HO2 : Hid (w2.ownsRow w.heap.size 25 1 (.slice A5 n c5) n vs) := lid' (by have := HM2.out.own; rw [HVN.out] at this; exact this); have HS2 := lid' HM2.out.b.size; clear hh)
            | (at_builtin; refine wpList_append_lies _ rfl _ _ _ rfl w.heap.size 25 i0 _ 1 24 Tryz.underlying43 hi hz0 hz1 hz2 rfl (by omega) (.slice A5 n c5) n vs rfl (HO2.out.alloc _) _ _ _ [.slice A2 1 c2] rfl rfl (World.news_of_block (heap_alloc_new _ _)) (by simp [Value.oneCell']) (by omega) (by simp only [maxLen]; omega) (by omega) (by have := HS2.out; simp; omega) _ rfl ?_; intro g3 c3 w3 hown hgrow hat hlt3; have hb3 := (Below.refl w2.heap.size w2).alloc (Nat.le_refl _) (.cells #[.slice A2 1 c2] 25); have HM3 := lid' (HM2.out.push (r := (.rng (97 + d3) (min 99 (97 + d3 + f2)))) hb3 (own_block HU.out (fun k hk => hb3.block k (World.ownsRow.lt HU.out k hk).2)) (by rw [HVN.out]; exact hown) hgrow); rw [HVN.out] at HM3; clear hown hgrow hat hlt3 hb3))
          go_roundw
          case rel => exact ⟨k + 1, n + 1, c3, sz + 2, _, _, _, rfl, by rw [List.length_append, HVN.out]; rfl, by push_cast; rfl, rfl, hl1, lid' (HS.out.next HKL.out HX.out hl2 HP.out HM3.out)⟩
          case measure => simp only [intOf]; omega
        · have g3 : ((n : Int) == 0) = false := by simp; omega
          by_cases cc : n = 1 ∧ q9 < 8
          · obtain ⟨cc1, cc2⟩ := cc
            have g4 : (q9 : Int) < 8 := by omega
            have g5 : ((n : Int) == 1) = true := by simp; omega
            have HCB := lid' cc1
            clear cc1
            have HP : Hid (mkS x (st, sz) = ((.rng (97 + d3) (min 99 (97 + d3 + f2))) :: st, sz + 2)) := lid' (by
              unfold mkS
              dsimp only
              rw [← HQ.out, if_pos (by have hz := HCB.out; omega), ← HD.out, ← HF.out]
              rw [if_neg (by omega)])
            have HVN := lid' hvn
            clear hst hvn
            go_wp2_with (first
              | (go_at_call 25; with_reducible refine (HONE.out wr).mono ?_; rintro e w2 ⟨A2, c2, rfl, hh⟩; have HU := lid' (own_mono hh.out.1 HSZ.out); have HB2 := lid' hh.out.2; have HM2 := lid' (HS.out.m.later hh.out.2); have HO2 : Hid (w2.ownsRow w.heap.size 25 1 (.slice A5 n c5) n vs) := lid' (by have := HM2.out.own; rw [HVN.out] at this; exact this); have HS2 := lid' HM2.out.b.size; clear hh)
              | (at_builtin; refine wpList_append_lies _ rfl _ _ _ rfl w.heap.size 25 i0 _ 1 24 Tryz.underlying43 hi hz0 hz1 hz2 rfl (by omega) (.slice A5 n c5) n vs rfl (HO2.out.alloc _) _ _ _ [.slice A2 1 c2] rfl rfl (World.news_of_block (heap_alloc_new _ _)) (by simp [Value.oneCell']) (by omega) (by simp only [maxLen]; omega) (by omega) (by have := HS2.out; simp; omega) _ rfl ?_; intro g3 c3 w3 hown hgrow hat hlt3; have hb3 := (Below.refl w2.heap.size w2).alloc (Nat.le_refl _) (.cells #[.slice A2 1 c2] 25); have HM3 := lid' (HM2.out.push (r := (.rng (97 + d3) (min 99 (97 + d3 + f2)))) hb3 (own_block HU.out (fun k hk => hb3.block k (World.ownsRow.lt HU.out k hk).2)) (by rw [HVN.out]; exact hown) hgrow); rw [HVN.out] at HM3; clear hown hgrow hat hlt3 hb3))
            go_roundw
            case rel => exact ⟨k + 1, n + 1, c3, sz + 2, _, _, _, rfl, by rw [List.length_append, HVN.out]; rfl, by push_cast; rfl, rfl, hl1, lid' (HS.out.next HKL.out HX.out hl2 HP.out HM3.out)⟩
            case measure => simp only [intOf]; omega
          · by_cases c8 : q9 = 8
            · subst c8
              by_cases cn : n = 1
              · subst cn
                obtain ⟨a, t, rfl⟩ : ∃ a t, st = a :: t := by
                  rcases st with _ | ⟨a, t⟩
                  · simp at hst
                  · exact ⟨a, t, rfl⟩
                have htj : t.length = 0 := by simpa using hst
                have hoS := HS.out.m.own
                rw [hvn] at hoS
                obtain ⟨q, cq, eq5, _, _⟩ := World.ownsRow.form hoS (by omega)
                injection eq5 with eq5 _ eq6
                subst eq5
                subst eq6
                obtain ⟨A1, c1, d1, hr1, _⟩ := HS.out.m.at hvn (i := 0) (r := a) (by rw [List.reverse_cons, List.getElem?_append_right (by rw [List.length_reverse]; omega), List.length_reverse, htj, Nat.sub_self]; rfl)
                have hann : a.nn ≤ 40000 := by
                  have h1 := sumN_mem (a :: t) (List.mem_cons_self ..)
                  have h2 := HS.out.su
                  omega
                have HR := lid' (k_rep a A1 c1 wr (lid' hr1) hann)
                have HP : Hid (mkS x (a :: t, sz) = (.rep a :: t, sz + 1)) := lid' (by
                  unfold mkS
                  dsimp only
                  rw [← HQ.out, if_neg (by first | (simp; done) | (simp; omega)), if_pos rfl])
                have HVN := lid' hvn
                generalize hpl : (a.po []).length = pl at d1
                rw [hpl] at HR
                clear hst hvn htj hoS hr1 hann hpl
                go_wp2_with (go_at_call 26; with_reducible refine HR.out.mono ?_; rintro e w2 ⟨A2, c2, rfl, hh⟩; have HM2 := lid' (HS.out.m.later hh.out.2); have HU := lid' (own_mono hh.out.1 HSZ.out); have y1 : w2.cell? ⟨q, 0, none⟩ = some (.slice A1 pl c1) := (World.cell?_of_block (w := wr) (hh.out.2.block q (World.ownsRow.lt HS.out.m.own q rfl).2)).trans d1; have y2 : w2.frozen? ⟨q, 0, none⟩ = false := (by have ho := HM2.out.own; rw [HVN.out] at ho; exact World.ownsRow.frozenAt ho 0); clear hh)
                go_roundw
                case rel => exact ⟨k + 1, 1, c5, sz + 1, _, _, _, rfl, by rw [List.length_set]; exact HVN.out, by push_cast; rfl, rfl, hl1, lid' (HS.out.next HKL.out HX.out hl2 HP.out (HM2.out.put HVN.out HU.out))⟩
                case measure => simp only [intOf]; omega
              · have g5 : ((n : Int) == 1) = false := by simp; omega
                obtain ⟨j, rfl⟩ : ∃ j, n = j + 1 := ⟨n - 1, by omega⟩
                have g5' : (((j : Int) + 1) == 1) = false := by simp; omega
                have hj0 : 1 ≤ j := by omega
                clear cn g3 g5
                obtain ⟨a, t, rfl⟩ : ∃ a t, st = a :: t := by
                  rcases st with _ | ⟨a, t⟩
                  · simp at hst
                  · exact ⟨a, t, rfl⟩
                have htj : t.length = j := by simpa using hst
                have hoS := HS.out.m.own
                rw [hvn] at hoS
                obtain ⟨q, cq, eq5, _, _⟩ := World.ownsRow.form hoS (by omega)
                injection eq5 with eq5 _ eq6
                subst eq5
                subst eq6
                obtain ⟨A1, c1, d1, hr1, _⟩ := HS.out.m.at hvn (i := j) (r := a) (by rw [List.reverse_cons, List.getElem?_append_right (by rw [List.length_reverse]; omega), List.length_reverse, htj, Nat.sub_self]; rfl)
                have hann : a.nn ≤ 40000 := by
                  have h1 := sumN_mem (a :: t) (List.mem_cons_self ..)
                  have h2 := HS.out.su
                  omega
                have HR := lid' (k_rep a A1 c1 wr (lid' hr1) hann)
                have HP : Hid (mkS x (a :: t, sz) = (.rep a :: t, sz + 1)) := lid' (by
                  unfold mkS
                  dsimp only
                  rw [← HQ.out, if_neg (by first | (simp; done) | (simp; omega)), if_pos rfl])
                have HVN := lid' hvn
                generalize hpl : (a.po []).length = pl at d1
                rw [hpl] at HR
                clear hst hvn htj hoS hr1 hann hpl
                go_wp2_with (go_at_call 26; with_reducible refine HR.out.mono ?_; rintro e w2 ⟨A2, c2, rfl, hh⟩; have HM2 := lid' (HS.out.m.later hh.out.2); have HU := lid' (own_mono hh.out.1 HSZ.out); have y1 : w2.cell? ⟨q, j, none⟩ = some (.slice A1 pl c1) := (World.cell?_of_block (w := wr) (hh.out.2.block q (World.ownsRow.lt HS.out.m.own q rfl).2)).trans d1; have y2 : w2.frozen? ⟨q, j, none⟩ = false := (by have ho := HM2.out.own; rw [HVN.out] at ho; exact World.ownsRow.frozenAt ho j); clear hh)
                go_roundw
                case rel => exact ⟨k + 1, j + 1, c5, sz + 1, _, _, _, rfl, by rw [List.length_set]; exact HVN.out, by push_cast; rfl, rfl, hl1, lid' (HS.out.next HKL.out HX.out hl2 HP.out (HM2.out.put HVN.out HU.out))⟩
                case measure => simp only [intOf]; omega
            · obtain ⟨j, rfl⟩ : ∃ j, n = j + 2 := by
                refine ⟨n - 2, ?_⟩
                rcases (show n = 1 ∨ 2 ≤ n by omega) with h | h
                · exact absurd ⟨h, by omega⟩ cc
                · omega
              have g5 : (((j : Int) + 2) == 1) = false := by simp; omega
              have w1 : IntKind.i64.wrap ((j : Int) + 2 - 2) = (j : Int) := by rw [IntKind.wrap_i64]; omega
              have w2 : IntKind.i64.wrap ((j : Int) + 2 - 1) = (j : Int) + 1 := by rw [IntKind.wrap_i64]; omega
              have w3 : IntKind.i64.wrap ((j : Int) + 1) = (j : Int) + 1 := by rw [IntKind.wrap_i64]; omega
              have w4 : IntKind.i64.wrap (j : Int) = (j : Int) := by rw [IntKind.wrap_i64]; omega
              have w5 : IntKind.i64.wrap 2 = 2 := by decide
              have w6 : IntKind.i64.wrap 3 = 3 := by decide
              have j1 : (0 : Int) ≤ (j : Int) := by omega
              have j2 : (j : Int) < (j : Int) + 2 := by omega
              have j3 : (0 : Int) ≤ (j : Int) + 1 := by omega
              have j4 : (j : Int) + 1 < (j : Int) + 2 := by omega
              have j5 : ¬ (j : Int) < 0 := by omega
              have j6 : ¬ (j : Int) + 1 < 0 := by omega
              have g6 : ((q9 : Int) == 8) = false := by simp; omega
              clear g3
              have g3 : (((j : Int) + 2) == 0) = false := by simp; omega
              obtain ⟨b2, a2, t, rfl⟩ : ∃ b a t, st = b :: a :: t := by
                rcases st with _ | ⟨b, _ | ⟨a, t⟩⟩
                · simp at hst
                · simp at hst
                · exact ⟨b, a, t, rfl⟩
              have htj : t.length = j := by simpa using hst
              have hoS := HS.out.m.own
              rw [hvn] at hoS
              obtain ⟨q, cq, eq5, _, _⟩ := World.ownsRow.form hoS (by omega)
              injection eq5 with eq5 _ eq6
              subst eq5
              subst eq6
              have hjc : j ≤ c5 := by
                obtain ⟨_, _, ev, hle, _⟩ := own_form hoS
                injection ev with _ _ ev
                omega
              have hjc2 : (j : Int) ≤ (c5 : Int) := by omega
              obtain ⟨A1, c1, d1, hr1, _⟩ := HS.out.m.at hvn (i := j) (r := a2) (by rw [List.reverse_cons, List.reverse_cons, List.append_assoc, List.getElem?_append_right (by rw [List.length_reverse]; omega), List.length_reverse, htj, Nat.sub_self]; rfl)
              obtain ⟨A2, c2, d2, hr2', _⟩ := HS.out.m.at hvn (i := j + 1) (r := b2) (by rw [List.reverse_cons, List.reverse_cons, List.append_assoc, List.getElem?_append_right (by rw [List.length_reverse]; omega), List.length_reverse, htj, Nat.add_sub_cancel_left]; rfl)
              have hann : a2.nn ≤ 40000 := by
                have h1 := sumN_mem (b2 :: a2 :: t) (r := a2) (by simp)
                have h2 := HS.out.su
                omega
              have hbnn : b2.nn ≤ 40000 := by
                have h1 := sumN_mem (b2 :: a2 :: t) (r := b2) (by simp)
                have h2 := HS.out.su
                omega
              have HVN := lid' hvn
              have hvn' := hvn
              clear hvn
              have hmx : Tryz.prog.follows .mixedOrders = true := by kernel_rfl
              by_cases hr2 : q9 % 2 = 0
              · have HP : Hid (mkS x (b2 :: a2 :: t, sz) = (.seq a2 b2 :: t, sz)) := lid' (by
                  unfold mkS
                  dsimp only
                  rw [← HQ.out, if_neg (by simp; omega), if_neg c8, if_pos hr2])
                have HJ : Hid (∀ dd, CallsIn Fence.wide 8 Tryz.prog 27 #[.int .i64 2, .slice A1 (a2.po []).length c1, .slice A2 (b2.po []).length c2] (wr.drewN dd) (fun e' w' => ∃ A3 c3, e' = .returned (.slice A3 (Rx.seq a2 b2 |>.po []).length c3) ∧ Hid (w'.ownsRow w.heap.size 42 5 (.slice A3 (Rx.seq a2 b2 |>.po []).length c3) (Rx.seq a2 b2 |>.po []).length (pnC (Rx.seq a2 b2 |>.po [])) ∧ Below wr.heap.size wr w'))) := lid' (fun dd => callsIn_wide.2 ((k_join 2 a2 b2 (.seq a2 b2) (jnN_seq a2 b2) A1 A2 c1 c2 (wr.drewN dd) (lid' (hr1.below (below_drewN (Below.refl _ wr) dd))) (lid' (hr2'.below (below_drewN (Below.refl _ wr) dd))) hann hbnn).mono (fun e' w' h => by
                  obtain ⟨A3, c3, h1, h2⟩ := h
                  exact ⟨A3, c3, h1, lid' ⟨own_mono h2.out.1 HSZ.out, (below_drewN (Below.refl _ wr) dd).trans h2.out.2⟩⟩)))
                have e2 : (q9 : Int).tmod 2 = 0 := by rw [Int.tmod_eq_emod_of_nonneg (by omega)]; omega
                generalize hpa : (a2.po []).length = la at d1
                generalize hpb : (b2.po []).length = lb at d2
                rw [hpa, hpb] at HJ
                generalize hpc : (Rx.seq a2 b2 |>.po []).length = lc at HJ
                have HPC := lid' hpc
                clear hpa hpb hpc hst hvn' htj hoS hr1 hr2' hann hbnn hr2 c8 cb ca cc
                go_wp2
                refine region_mix_wp 13 24 (fun w' => ∃ d, w' = wr.drewN d) (fun _ w' => ∃ d, w' = wr.drewN d) (fun _ => false) (by decide) hmx (by kernel_rfl) (by kernel_rfl) (by kernel_rfl) (fun _ _ h => h) (fun _ _ _ _ => Iff.rfl) ⟨1, rfl⟩ ?_
                simp only [List.take_succ_cons, List.take_zero]
                repeat (refine wpSt_step (by quiet_asked_in) (fun K hK => ?_); go_simp; refine hK _ ?_; clear hK K)
                refine wpSt_nil ?_
                refine mix_rest (i := 13) (by kernel_rfl) (by decide) rfl ?_
                rintro w' ⟨dd, rfl⟩
                refine wpOpIn_step rfl (fun K hK => ?_)
                go_simp
                refine ⟨trivial, ?_⟩
                refine (HJ.out dd).mono ?_
                rintro e' w2 ⟨A3, c3, rfl, hh⟩
                refine hK _ _ ?_
                clear hK K HJ
                refine wpAnyIn_ready (rs := [14]) (by kernel_rfl) (by simp) ?_
                refine AllReadyIn.cons rfl (fun K hK => ?_) AllReadyIn.nil
                go_simp
                refine hK _ _ ?_
                clear hK K
                refine wpAnyIn_done (by kernel_rfl) ?_ _
                refine npQ.normal ?_
                have HM2 := lid' (HS.out.m.later hh.out.2)
                have HU := lid' hh.out.1
                have HC2 := lid' (HM2.out.cut HVN.out)
                have HLT : Hid ((vs.take j).length = j) := lid' (by rw [List.length_take, HVN.out]; omega)
                have HO2 : Hid (w2.ownsRow w.heap.size 25 1 (.slice (some ⟨q, 0, none⟩) j c5) j (vs.take j)) := lid' (by have := HC2.out.own; rw [HLT.out] at this; exact this)
                have HS2 := lid' HM2.out.b.size
                clear hh d1 d2 dd
                go_wp2_with (at_builtin; refine wpList_append_lies _ rfl _ _ _ rfl w.heap.size 25 i0 _ 1 24 Tryz.underlying43 hi hz0 hz1 hz2 rfl (by omega) (.slice (some ⟨q, 0, none⟩) j c5) j (vs.take j) rfl (HO2.out.alloc _) _ _ _ [.slice A3 lc c3] rfl rfl (World.news_of_block (heap_alloc_new _ _)) (by simp [Value.oneCell']) (by omega) (by simp only [maxLen]; omega) (by omega) (by have := HS2.out; simp; omega) _ rfl ?_; intro g3 c4 w3 hown hgrow hat hlt3; have hb3 := (Below.refl w2.heap.size w2).alloc (Nat.le_refl _) (.cells #[.slice A3 lc c3] 25); have HM3 := lid' (HC2.out.push (r := .seq a2 b2) hb3 (by rw [HPC.out]; exact own_block HU.out (fun k hk => hb3.block k (World.ownsRow.lt HU.out k hk).2)) (by rw [HLT.out]; exact hown) hgrow); rw [HLT.out] at HM3; clear hown hgrow hat hlt3 hb3)
                go_roundw
                case rel => exact ⟨k + 1, j + 1, c4, sz, _, _, _, rfl, by rw [List.length_append, HLT.out]; rfl, by congr 1, rfl, hl1, lid' (HS.out.next HKL.out HX.out hl2 HP.out HM3.out)⟩
                case measure => simp only [intOf]; omega
              · have HP : Hid (mkS x (b2 :: a2 :: t, sz) = (.alt a2 b2 :: t, sz)) := lid' (by
                  unfold mkS
                  dsimp only
                  rw [← HQ.out, if_neg (by simp; omega), if_neg c8, if_neg (by omega)])
                have HJ : Hid (∀ dd, CallsIn Fence.wide 8 Tryz.prog 27 #[.int .i64 3, .slice A1 (a2.po []).length c1, .slice A2 (b2.po []).length c2] (wr.drewN dd) (fun e' w' => ∃ A3 c3, e' = .returned (.slice A3 (Rx.alt a2 b2 |>.po []).length c3) ∧ Hid (w'.ownsRow w.heap.size 42 5 (.slice A3 (Rx.alt a2 b2 |>.po []).length c3) (Rx.alt a2 b2 |>.po []).length (pnC (Rx.alt a2 b2 |>.po [])) ∧ Below wr.heap.size wr w'))) := lid' (fun dd => callsIn_wide.2 ((k_join 3 a2 b2 (.alt a2 b2) (jnN_alt a2 b2) A1 A2 c1 c2 (wr.drewN dd) (lid' (hr1.below (below_drewN (Below.refl _ wr) dd))) (lid' (hr2'.below (below_drewN (Below.refl _ wr) dd))) hann hbnn).mono (fun e' w' h => by
                  obtain ⟨A3, c3, h1, h2⟩ := h
                  exact ⟨A3, c3, h1, lid' ⟨own_mono h2.out.1 HSZ.out, (below_drewN (Below.refl _ wr) dd).trans h2.out.2⟩⟩)))
                have e2 : (q9 : Int).tmod 2 = 1 := by rw [Int.tmod_eq_emod_of_nonneg (by omega)]; omega
                generalize hpa : (a2.po []).length = la at d1
                generalize hpb : (b2.po []).length = lb at d2
                rw [hpa, hpb] at HJ
                generalize hpc : (Rx.alt a2 b2 |>.po []).length = lc at HJ
                have HPC := lid' hpc
                clear hpa hpb hpc hst hvn' htj hoS hr1 hr2' hann hbnn hr2 c8 cb ca cc
                go_wp2
                refine region_mix_wp 13 24 (fun w' => ∃ d, w' = wr.drewN d) (fun _ w' => ∃ d, w' = wr.drewN d) (fun _ => false) (by decide) hmx (by kernel_rfl) (by kernel_rfl) (by kernel_rfl) (fun _ _ h => h) (fun _ _ _ _ => Iff.rfl) ⟨1, rfl⟩ ?_
                simp only [List.take_succ_cons, List.take_zero]
                repeat (refine wpSt_step (by quiet_asked_in) (fun K hK => ?_); go_simp; refine hK _ ?_; clear hK K)
                refine wpSt_nil ?_
                refine mix_rest (i := 13) (by kernel_rfl) (by decide) rfl ?_
                rintro w' ⟨dd, rfl⟩
                refine wpOpIn_step rfl (fun K hK => ?_)
                go_simp
                refine ⟨trivial, ?_⟩
                refine (HJ.out dd).mono ?_
                rintro e' w2 ⟨A3, c3, rfl, hh⟩
                refine hK _ _ ?_
                clear hK K HJ
                refine wpAnyIn_ready (rs := [14]) (by kernel_rfl) (by simp) ?_
                refine AllReadyIn.cons rfl (fun K hK => ?_) AllReadyIn.nil
                go_simp
                refine hK _ _ ?_
                clear hK K
                refine wpAnyIn_done (by kernel_rfl) ?_ _
                refine npQ.normal ?_
                have HM2 := lid' (HS.out.m.later hh.out.2)
                have HU := lid' hh.out.1
                have HC2 := lid' (HM2.out.cut HVN.out)
                have HLT : Hid ((vs.take j).length = j) := lid' (by rw [List.length_take, HVN.out]; omega)
                have HO2 : Hid (w2.ownsRow w.heap.size 25 1 (.slice (some ⟨q, 0, none⟩) j c5) j (vs.take j)) := lid' (by have := HC2.out.own; rw [HLT.out] at this; exact this)
                have HS2 := lid' HM2.out.b.size
                clear hh d1 d2 dd
                go_wp2_with (at_builtin; refine wpList_append_lies _ rfl _ _ _ rfl w.heap.size 25 i0 _ 1 24 Tryz.underlying43 hi hz0 hz1 hz2 rfl (by omega) (.slice (some ⟨q, 0, none⟩) j c5) j (vs.take j) rfl (HO2.out.alloc _) _ _ _ [.slice A3 lc c3] rfl rfl (World.news_of_block (heap_alloc_new _ _)) (by simp [Value.oneCell']) (by omega) (by simp only [maxLen]; omega) (by omega) (by have := HS2.out; simp; omega) _ rfl ?_; intro g3 c4 w3 hown hgrow hat hlt3; have hb3 := (Below.refl w2.heap.size w2).alloc (Nat.le_refl _) (.cells #[.slice A3 lc c3] 25); have HM3 := lid' (HC2.out.push (r := .alt a2 b2) hb3 (by rw [HPC.out]; exact own_block HU.out (fun k hk => hb3.block k (World.ownsRow.lt HU.out k hk).2)) (by rw [HLT.out]; exact hown) hgrow); rw [HLT.out] at HM3; clear hown hgrow hat hlt3 hb3)
                go_roundw
                case rel => exact ⟨k + 1, j + 1, c4, sz, _, _, _, rfl, by rw [List.length_append, HLT.out]; rfl, by congr 1, rfl, hl1, lid' (HS.out.next HKL.out HX.out hl2 HP.out HM3.out)⟩
                case measure => simp only [intOf]; omega
    · have HMD : Hid (madeR l most = mkR st.reverse) := lid' (by
        unfold madeR
        rw [HS.out.e]
        rcases Nat.lt_or_ge k nn with h | h
        · rw [mkL_stop _ _ _ (fun q => hlt ⟨h, q⟩)]
        · rw [List.drop_eq_nil_of_le (by rw [HL.out]; omega)]; rfl)
      by_cases hk1 : k < nn
      · have i1 : (k : Int) < (nn : Int) := by omega
        have i2 : ¬ (sz : Int) + 2 < (most : Int) := by omega
        clear hlt
        by_cases h0 : n = 0
        · subst h0
          obtain rfl : st = [] := List.eq_nil_of_length_eq_zero hst
          have HE : Hid (madeR l most = .emp) := lid' (by rw [HMD.out]; rfl)
          have HB := lid' HS.out.m.b
          clear hst hvn
          go_wp2_with (go_at_call 24; with_reducible refine (k_empty wr).mono ?_; rintro e w2 ⟨A2, c2, rfl, hh⟩)
          go_ret
          rw [HE.out]
          exact ⟨A2, c2, rfl, lid' ⟨own_mono hh.out.1 HB.out.size, HB.out.trans (hh.out.2.mono HB.out.size)⟩⟩
        · obtain ⟨wo, hwo⟩ : ∃ wo, wo = wr := ⟨_, rfl⟩
          subst hwo
          have hoS := HS.out.m.own
          rw [hvn] at hoS
          obtain ⟨q, cq, eq5, _, _⟩ := World.ownsRow.form hoS (by omega)
          injection eq5 with eq5 _ eq6
          subst eq5
          subst eq6
          obtain ⟨r0, t0, hr0⟩ : ∃ a t, st.reverse = a :: t := by
            rcases h : st.reverse with _ | ⟨a, t⟩
            · have := congrArg List.length h
              rw [List.length_reverse, hst] at this
              simp at this
              omega
            · exact ⟨a, t, rfl⟩
          obtain ⟨A1, c1, d1, _, hrow1⟩ := HS.out.m.at hvn (i := 0) (r := r0) (by rw [hr0]; rfl)
          have g3 : ((n : Int) == 0) = false := by simp; omega
          have n0 : (0 : Int) < (n : Int) := by omega
          have HM0 := lid' HS.out.m
          have HR0 := lid' hrow1
          have HF0 : Hid (madeR l most = (st.reverse.drop 1).foldl (fun out r => .seq out r) r0) := lid' (by rw [HMD.out, hr0]; rfl)
          have HN0 : Hid (r0.nn + sumN (st.reverse.drop 1) ≤ 64) := lid' (by
            have h1 := HS.out.su
            have h2 := sumN_rev st
            rw [hr0] at h2 ⊢
            have h3 : sumN (r0 :: t0) = r0.nn + 1 + sumN t0 := rfl
            show r0.nn + sumN t0 ≤ 64
            omega)
          have HST := lid' hst
          have HVN := lid' hvn
          clear HS hoS hr0 hrow1 hst hvn HMD
          go_wp2
          clear d1
          go_loopw [14, 15] (fun v14 v15 wi => ∃ (i : Nat) (r : Rx) (A1 : Option Addr) (c1 : Nat), v14 = .slice A1 (r.po []).length c1 ∧ v15 = .int .i64 (i : Int) ∧ 1 ≤ i ∧ i ≤ n ∧ Hid (MkM w wi (.slice (some ⟨q, 0, none⟩) n c5) vs st) ∧ Hid (wi.ownsRow w.heap.size 42 5 (.slice A1 (r.po []).length c1) (r.po []).length (pnC (r.po []))) ∧ Hid (madeR l most = (st.reverse.drop i).foldl (fun out r => .seq out r) r) ∧ Hid (r.nn + sumN (st.reverse.drop i) ≤ 64)) (fun _ v15 _ => n - (intOf v15).toNat)
          case atStart => exact ⟨1, r0, A1, c1, rfl, rfl, Nat.le_refl _, by omega, HM0, HR0, HF0, HN0⟩
          case round =>
            clear HM0 HR0 HF0 HN0
            obtain ⟨i, r, A2, c2, rfl, rfl, hi1, hin, HM, HR, HF, HN⟩ := hrel
            by_cases hil : i < n
            · have hlr : i < st.reverse.length := by rw [List.length_reverse, HST.out]; exact hil
              obtain ⟨r2, hr2⟩ : ∃ r2, st.reverse[i]? = some r2 := ⟨_, List.getElem?_eq_getElem hlr⟩
              obtain ⟨A3, c3, d2, hrp2, _⟩ := HM.out.at HVN.out (i := i) (r := r2) hr2
              have hd : st.reverse.drop i = r2 :: st.reverse.drop (i + 1) := by
                rw [List.getElem?_eq_getElem hlr] at hr2
                rw [List.drop_eq_getElem_cons hlr, Option.some.inj hr2]
              have hF2 := HF.out
              have hN2 := HN.out
              rw [hd] at hF2 hN2
              have hN3 : r.nn + (r2.nn + 1 + sumN (st.reverse.drop (i + 1))) ≤ 64 := hN2
              obtain ⟨A4, c4, ev, hrp⟩ := rp_own HR.out rfl
              injection ev with ev1 _ ev2
              subst ev1
              subst ev2
              have HJ := lid' (k_join 2 r r2 (.seq r r2) (jnN_seq r r2) A2 A3 c2 c3 wr (lid' hrp) (lid' hrp2) (by omega) (by omega))
              have HF2 : Hid (madeR l most = (st.reverse.drop (i + 1)).foldl (fun out r => .seq out r) (.seq r r2)) := lid' hF2
              have HN2 : Hid ((Rx.seq r r2).nn + sumN (st.reverse.drop (i + 1)) ≤ 64) := lid' (by show r.nn + r2.nn + 1 + _ ≤ 64; omega)
              have HSZ := lid' HM.out.b.size
              have i1 : (0 : Int) ≤ (i : Int) := by omega
              have i2 : (i : Int) < (n : Int) := by omega
              generalize hpa : (r.po []).length = la at *
              generalize hpb : (r2.po []).length = lb at *
              generalize hpc : (Rx.seq r r2 |>.po []).length = lc at *
              have HPC := lid' hpc
              clear hpa hpb hpc hr2 hd hF2 hN2 hN3 hrp hrp2
              go_wp2_with (go_at_call 27; with_reducible refine HJ.out.mono ?_; rintro e w2 ⟨A5, c6, rfl, hh⟩)
              go_roundw
              case rel => exact ⟨i + 1, .seq r r2, A5, c6, by rw [HPC.out], by push_cast; rfl, by omega, hil, lid' (HM.out.later hh.out.2), lid' (by rw [HPC.out]; exact own_mono hh.out.1 HSZ.out), HF2, HN2⟩
              case measure => simp only [intOf]; omega
            · obtain rfl : i = n := by omega
              have HE : Hid (madeR l most = r) := lid' (by rw [HF.out, List.drop_eq_nil_of_le (by rw [List.length_reverse, HST.out]; exact Nat.le_refl _)]; rfl)
              go_wp2
              go_ret
              rw [HE.out]
              exact ⟨A2, c2, rfl, lid' ⟨HR.out, HM.out.b⟩⟩
      · have i1 : ¬ (k : Int) < (nn : Int) := by omega
        clear hlt
        by_cases h0 : n = 0
        · subst h0
          obtain rfl : st = [] := List.eq_nil_of_length_eq_zero hst
          have HE : Hid (madeR l most = .emp) := lid' (by rw [HMD.out]; rfl)
          have HB := lid' HS.out.m.b
          clear hst hvn
          go_wp2_with (go_at_call 24; with_reducible refine (k_empty wr).mono ?_; rintro e w2 ⟨A2, c2, rfl, hh⟩)
          go_ret
          rw [HE.out]
          exact ⟨A2, c2, rfl, lid' ⟨own_mono hh.out.1 HB.out.size, HB.out.trans (hh.out.2.mono HB.out.size)⟩⟩
        · obtain ⟨wo, hwo⟩ : ∃ wo, wo = wr := ⟨_, rfl⟩
          subst hwo
          have hoS := HS.out.m.own
          rw [hvn] at hoS
          obtain ⟨q, cq, eq5, _, _⟩ := World.ownsRow.form hoS (by omega)
          injection eq5 with eq5 _ eq6
          subst eq5
          subst eq6
          obtain ⟨r0, t0, hr0⟩ : ∃ a t, st.reverse = a :: t := by
            rcases h : st.reverse with _ | ⟨a, t⟩
            · have := congrArg List.length h
              rw [List.length_reverse, hst] at this
              simp at this
              omega
            · exact ⟨a, t, rfl⟩
          obtain ⟨A1, c1, d1, _, hrow1⟩ := HS.out.m.at hvn (i := 0) (r := r0) (by rw [hr0]; rfl)
          have g3 : ((n : Int) == 0) = false := by simp; omega
          have n0 : (0 : Int) < (n : Int) := by omega
          have HM0 := lid' HS.out.m
          have HR0 := lid' hrow1
          have HF0 : Hid (madeR l most = (st.reverse.drop 1).foldl (fun out r => .seq out r) r0) := lid' (by rw [HMD.out, hr0]; rfl)
          have HN0 : Hid (r0.nn + sumN (st.reverse.drop 1) ≤ 64) := lid' (by
            have h1 := HS.out.su
            have h2 := sumN_rev st
            rw [hr0] at h2 ⊢
            have h3 : sumN (r0 :: t0) = r0.nn + 1 + sumN t0 := rfl
            show r0.nn + sumN t0 ≤ 64
            omega)
          have HST := lid' hst
          have HVN := lid' hvn
          clear HS hoS hr0 hrow1 hst hvn HMD
          go_wp2
          clear d1
          go_loopw [14, 15] (fun v14 v15 wi => ∃ (i : Nat) (r : Rx) (A1 : Option Addr) (c1 : Nat), v14 = .slice A1 (r.po []).length c1 ∧ v15 = .int .i64 (i : Int) ∧ 1 ≤ i ∧ i ≤ n ∧ Hid (MkM w wi (.slice (some ⟨q, 0, none⟩) n c5) vs st) ∧ Hid (wi.ownsRow w.heap.size 42 5 (.slice A1 (r.po []).length c1) (r.po []).length (pnC (r.po []))) ∧ Hid (madeR l most = (st.reverse.drop i).foldl (fun out r => .seq out r) r) ∧ Hid (r.nn + sumN (st.reverse.drop i) ≤ 64)) (fun _ v15 _ => n - (intOf v15).toNat)
          case atStart => exact ⟨1, r0, A1, c1, rfl, rfl, Nat.le_refl _, by omega, HM0, HR0, HF0, HN0⟩
          case round =>
            clear HM0 HR0 HF0 HN0
            obtain ⟨i, r, A2, c2, rfl, rfl, hi1, hin, HM, HR, HF, HN⟩ := hrel
            by_cases hil : i < n
            · have hlr : i < st.reverse.length := by rw [List.length_reverse, HST.out]; exact hil
              obtain ⟨r2, hr2⟩ : ∃ r2, st.reverse[i]? = some r2 := ⟨_, List.getElem?_eq_getElem hlr⟩
              obtain ⟨A3, c3, d2, hrp2, _⟩ := HM.out.at HVN.out (i := i) (r := r2) hr2
              have hd : st.reverse.drop i = r2 :: st.reverse.drop (i + 1) := by
                rw [List.getElem?_eq_getElem hlr] at hr2
                rw [List.drop_eq_getElem_cons hlr, Option.some.inj hr2]
              have hF2 := HF.out
              have hN2 := HN.out
              rw [hd] at hF2 hN2
              have hN3 : r.nn + (r2.nn + 1 + sumN (st.reverse.drop (i + 1))) ≤ 64 := hN2
              obtain ⟨A4, c4, ev, hrp⟩ := rp_own HR.out rfl
              injection ev with ev1 _ ev2
              subst ev1
              subst ev2
              have HJ := lid' (k_join 2 r r2 (.seq r r2) (jnN_seq r r2) A2 A3 c2 c3 wr (lid' hrp) (lid' hrp2) (by omega) (by omega))
              have HF2 : Hid (madeR l most = (st.reverse.drop (i + 1)).foldl (fun out r => .seq out r) (.seq r r2)) := lid' hF2
              have HN2 : Hid ((Rx.seq r r2).nn + sumN (st.reverse.drop (i + 1)) ≤ 64) := lid' (by show r.nn + r2.nn + 1 + _ ≤ 64; omega)
              have HSZ := lid' HM.out.b.size
              have i1 : (0 : Int) ≤ (i : Int) := by omega
              have i2 : (i : Int) < (n : Int) := by omega
              generalize hpa : (r.po []).length = la at *
              generalize hpb : (r2.po []).length = lb at *
              generalize hpc : (Rx.seq r r2 |>.po []).length = lc at *
              have HPC := lid' hpc
              clear hpa hpb hpc hr2 hd hF2 hN2 hN3 hrp hrp2
              go_wp2_with (go_at_call 27; with_reducible refine HJ.out.mono ?_; rintro e w2 ⟨A5, c6, rfl, hh⟩)
              go_roundw
              case rel => exact ⟨i + 1, .seq r r2, A5, c6, by rw [HPC.out], by push_cast; rfl, by omega, hil, lid' (HM.out.later hh.out.2), lid' (by rw [HPC.out]; exact own_mono hh.out.1 HSZ.out), HF2, HN2⟩
              case measure => simp only [intOf]; omega
            · obtain rfl : i = n := by omega
              have HE : Hid (madeR l most = r) := lid' (by rw [HF.out, List.drop_eq_nil_of_le (by rw [List.length_reverse, HST.out]; exact Nat.le_refl _)]; rfl)
              go_wp2
              go_ret
              rw [HE.out]
              exact ⟨A2, c2, rfl, lid' ⟨HR.out, HM.out.b⟩⟩

end Go.Proofs.YtfkljlncnfeklaaGreatDoor
