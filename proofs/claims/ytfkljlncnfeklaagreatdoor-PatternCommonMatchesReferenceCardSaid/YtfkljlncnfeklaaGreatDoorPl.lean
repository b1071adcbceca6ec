/-
  Plain mathematics and contracts of package diagram, several texts in one: XSm, XRj, XJo, XUs, XEx, XWd.
-/
import Derived.Test.YtfkljlncnfeklaaGreatDoorPg
import Derived.Test.YtfkljlncnfeklaaGreatDoorPk
import Derived.Test.YtfkljlncnfeklaaGreatDoorPh

/-! The reference's Same, empty, one, operands. -/
namespace Go.Proofs.YtfkljlncnfeklaaGreatDoor
open Go.RowKit Go.Shelf
set_option linter.unusedVariables false
set_option linter.unusedSimpArgs false
attribute [local go_sem ↓] Go.wp_at_zero Go.wp_at_succ

theorem run_neq_pn (w : World) (a b c d f x y z u v : Int) :
    (binOp .neq 42 (.agg #[.int .i64 a, .int .i64 b, .int .i64 c, .int .i64 d, .int .i64 f]) (.agg #[.int .i64 x, .int .i64 y, .int .i64 z, .int .i64 u, .int .i64 v])).run Tryz.prog w = .ok (.bool (!(a == x && (b == y && (c == z && (d == u && f == v)))))) w := by
  have h := run_eql_pn w a b c d f x y z u v
  have hf : Tryz.prog.underlying 42 = some (.struct (Tryz.prog.fieldsOf 42)) := by kernel_rfl
  rw [run_eql_struct] at h
  rw [run_neq_struct]
  rcases hh : (Op.equalIn 10000 42 (.agg #[.int .i64 a, .int .i64 b, .int .i64 c, .int .i64 d, .int .i64 f]) (.agg #[.int .i64 x, .int .i64 y, .int .i64 z, .int .i64 u, .int .i64 v])).run Tryz.prog w with _ | _ <;> rw [hh] at h <;> simp [Result.andThen] at h ⊢
  simp [h]
def EqP (l l' : List Pn) (k : Nat) : Prop := ∀ j, j < k → pk l j = pk l' j ∧ plo l j = plo l' j ∧ phi l j = phi l' j ∧ pa l j = pa l' j ∧ pb l j = pb l' j
theorem eqP_all {l l' : List Pn} (h : EqP l l' l.length) (hl : l.length = l'.length) : l = l' := by
  apply List.ext_getElem hl
  intro i h1 h2
  obtain ⟨a, b, c, d, e⟩ := h i h1
  unfold pk plo phi pa pb at *
  rw [List.getD_eq_getElem?_getD, List.getD_eq_getElem?_getD, List.getElem?_eq_getElem h1, List.getElem?_eq_getElem h2] at a b c d e
  exact Prod.ext a (Prod.ext b (Prod.ext c (Prod.ext d e)))

set_option maxHeartbeats 4000000 in
set_option maxRecDepth 100000 in
theorem psame_any (A A' : Option Addr) (m c m' c' : Nat) (l l' : List Pn) (w : World) (hl : Hid (l.length = m)) (hl' : Hid (l'.length = m')) (hm : m ≤ 1000000) (hr : Hid (Rp w w.heap.size A l)) (hr' : Hid (Rp w w.heap.size A' l')) :
    Calls Tryz.prog 18 #[.slice A m c, .slice A' m' c'] w fun e w' => e = .returned (.bool (decide (l = l'))) ∧ Below w.heap.size w w' := by
  by_cases hmm : m = m'
  rotate_left
  · have b1 : ((m : Int) != (m' : Int)) = true := bne_iff_ne.2 (by omega)
    have hn : l ≠ l' := fun e => hmm (by rw [← hl.out, ← hl'.out, e])
    rw [decide_eq_false hn]
    clear hmm hn hr hr'
    go_enter Tryz.func18, Tryz.ntmps18
    go_wp2
    go_ret
    exact ⟨rfl, Below.refl _ _⟩
  subst hmm
  have b1 : ((m : Int) != (m : Int)) = false := by simp
  go_enter Tryz.func18, Tryz.ntmps18
  go_wp2
  go_loopw [5] (fun i wr => ∃ k j : Nat, k ≤ m ∧ i = .int .i64 (k : Int) ∧ Hid (EqP l l' k) ∧ wr = w.drewN j) (fun i _ => m - (intOf i).toNat)
  case atStart => exact ⟨0, 0, Nat.zero_le _, rfl, (fun j hj => absurd hj (by omega)), rfl⟩
  case round =>
    obtain ⟨k, j, hk, rfl, hno, rfl⟩ := hrel
    by_cases hlt : k < m
    · obtain ⟨b, o, e, hb, hc⟩ := hr.out (by rw [hl.out]; omega)
      obtain ⟨b', o', e', hb', hc'⟩ := hr'.out (by rw [hl'.out]; omega)
      subst e
      subst e'
      obtain ⟨c0, c1, c2, c3, c4⟩ := hc k (by rw [hl.out]; exact hlt)
      obtain ⟨d0, d1, d2, d3, d4⟩ := hc' k (by rw [hl'.out]; exact hlt)
      have HNX : Hid (pk l k = pk l' k ∧ plo l k = plo l' k ∧ phi l k = phi l' k ∧ pa l k = pa l' k ∧ pb l k = pb l' k → EqP l l' (k + 1)) := Lib.hid (fun he j hj => by
        rcases Nat.lt_or_ge j k with h | h
        · exact hno.out j h
        · rw [show j = k by omega]; exact he)
      have HNE : Hid (¬ (pk l k = pk l' k ∧ plo l k = plo l' k ∧ phi l k = phi l' k ∧ pa l k = pa l' k ∧ pb l k = pb l' k) → l ≠ l') := Lib.hid (fun h e => h (by rw [e]; exact ⟨rfl, rfl, rfl, rfl, rfl⟩))
      clear hc hc'
      generalize pk l k = O at *
      generalize plo l k = V at *
      generalize phi l k = U at *
      generalize pa l k = X at *
      generalize pb l k = Y at *
      generalize pk l' k = O' at *
      generalize plo l' k = V' at *
      generalize phi l' k = U' at *
      generalize pa l' k = X' at *
      generalize pb l' k = Y' at *
      have i1 : (0 : Int) ≤ (k : Int) := by omega
      have i2 : (k : Int) < (m : Int) := by omega
      have heq := fun W : World => run_neq_pn W O V U X Y O' V' U' X' Y'
      by_cases q : O = O' ∧ V = V' ∧ U = U' ∧ X = X' ∧ Y = Y'
      · have hq : (O == O' && (V == V' && (U == U' && (X == X' && Y == Y')))) = true := by simp [q.1, q.2.1, q.2.2.1, q.2.2.2.1, q.2.2.2.2]
        have HN := Lib.hid (HNX.out q)
        rw [hq] at heq
        clear q hq HNX HNE
        go_wp2
        go_quiet (fail)
        go_wp2
        go_roundw
        case rel => exact ⟨k + 1, _, by omega, by go_num, HN, rfl⟩
        case measure => simp [intOf]; omega
      · have hq : (O == O' && (V == V' && (U == U' && (X == X' && Y == Y')))) = false := by
          rcases h : (O == O' && (V == V' && (U == U' && (X == X' && Y == Y')))) with _ | _
          · rfl
          · simp at h; exact absurd h q
        have HN := Lib.hid (HNE.out q)
        rw [hq] at heq
        clear q hq HNX HNE
        go_wp2
        go_quiet (fail)
        go_wp2
        go_ret
        exact ⟨by rw [decide_eq_false HN.out]; rfl, below_drewN (below_drewN (Below.refl _ _) _) _⟩
    · obtain rfl : k = m := by omega
      have HY := Lib.hid (eqP_all (by rw [hl.out]; exact hno.out) (by rw [hl.out, hl'.out]))
      go_wp2
      go_ret
      exact ⟨by rw [decide_eq_true HY.out]; rfl, below_drewN (Below.refl _ _) _⟩

set_option maxRecDepth 100000 in
set_option maxHeartbeats 1000000 in
theorem rempty_any (w : World) : Calls Tryz.prog 24 #[] w fun e w' => e = .returned (.slice (some ⟨w.heap.size, 0, none⟩) 1 1) ∧ w' = w.alloc (.cells #[.int .i64 0, .int .i64 0, .int .i64 0, .int .i64 0, .int .i64 0] 42) := by
  go_enter Tryz.func24, Tryz.ntmps24
  go_wp2
  go_ret
  exact ⟨rfl, rfl⟩
set_option maxRecDepth 100000 in
set_option maxHeartbeats 1000000 in
theorem rone_any (lo hi : Int) (w : World) : Calls Tryz.prog 25 #[.int .i64 lo, .int .i64 hi] w fun e w' => e = .returned (.slice (some ⟨w.heap.size, 0, none⟩) 1 1) ∧ w' = w.alloc (.cells #[.int .i64 1, .int .i64 lo, .int .i64 hi, .int .i64 0, .int .i64 0] 42) := by
  go_enter Tryz.func25, Tryz.ntmps25
  go_wp2
  go_ret
  exact ⟨rfl, rfl⟩
/-- how many operands a kind has, and whether it is one -/
def roP (k : Int) : Int × Bool := if k = 0 ∨ k = 1 then (0, true) else if k = 4 then (1, true) else if k = 2 ∨ k = 3 then (2, true) else (0, false)
set_option maxRecDepth 100000 in
set_option maxHeartbeats 1000000 in
theorem roperands_any (k : Int) (w : World) : Calls Tryz.prog 40 #[.int .i64 k] w fun e w' => e = .returned (.tuple #[.int .i64 (roP k).1, .bool (roP k).2]) ∧ w' = w := by
  by_cases h0 : k = 0
  · subst h0
    go_enter Tryz.func40, Tryz.ntmps40
    go_wp2
    go_ret2
    exact ⟨rfl, rfl⟩
  by_cases h1 : k = 1
  · subst h1
    go_enter Tryz.func40, Tryz.ntmps40
    go_wp2
    go_ret2
    exact ⟨rfl, rfl⟩
  by_cases h4 : k = 4
  · subst h4
    go_enter Tryz.func40, Tryz.ntmps40
    go_wp2
    go_ret2
    exact ⟨rfl, rfl⟩
  by_cases h2 : k = 2
  · subst h2
    go_enter Tryz.func40, Tryz.ntmps40
    go_wp2
    go_ret2
    exact ⟨rfl, rfl⟩
  by_cases h3 : k = 3
  · subst h3
    go_enter Tryz.func40, Tryz.ntmps40
    go_wp2
    go_ret2
    exact ⟨rfl, rfl⟩
  have b0 : (k == 0) = false := beq_eq_false_iff_ne.2 h0
  have b1 : (k == 1) = false := beq_eq_false_iff_ne.2 h1
  have b2 : (k == 2) = false := beq_eq_false_iff_ne.2 h2
  have b3 : (k == 3) = false := beq_eq_false_iff_ne.2 h3
  have b4 : (k == 4) = false := beq_eq_false_iff_ne.2 h4
  have e : roP k = (0, false) := by unfold roP; rw [if_neg (by omega), if_neg h4, if_neg (by omega)]
  rw [e]
  clear e
  go_enter Tryz.func40, Tryz.ntmps40
  go_wp2
  go_ret2
  exact ⟨rfl, rfl⟩

end Go.Proofs.YtfkljlncnfeklaaGreatDoor

/-! The reference's repeat. -/
namespace Go.Proofs.YtfkljlncnfeklaaGreatDoor
open Go.RowKit Go.Shelf
set_option linter.unusedVariables false
set_option linter.unusedSimpArgs false
attribute [local go_sem ↓] Go.wp_at_zero Go.wp_at_succ

theorem addr_add (b o n : Nat) : (⟨b, o, none⟩ : Addr).add n = ⟨b, o + n, none⟩ := by
  unfold Addr.add
  split
  · next h => subst h; rfl
  · rfl
theorem rp_news {w : World} {B b o : Nat} {l : List Pn} (h : Rp w B (some ⟨b, o, none⟩) l) : ∀ j u, (pnC l)[j]? = some u → w.cell? ((⟨b, o, none⟩ : Addr).add j) = some u := fun j u hu => by
  have hj : j < l.length * 5 := by
    rcases Nat.lt_or_ge j (l.length * 5) with h1 | h1
    · exact h1
    · rw [List.getElem?_eq_none (by rw [pnC_len]; exact h1)] at hu; cases hu
  have hl : 0 < l.length := by omega
  obtain ⟨b', o', e, _, hc⟩ := h hl
  cases e
  obtain ⟨p, i, hp, hi, rfl⟩ : ∃ p i, p < l.length ∧ i < 5 ∧ j = p * 5 + i := ⟨j / 5, j % 5, by omega, Nat.mod_lt _ (by decide), by omega⟩
  rw [pnC_at l hp hi] at hu
  obtain ⟨c0, c1, c2, c3, c4⟩ := hc p hp
  rw [addr_add]
  rw [show o + (p * 5 + i) = o + p * 5 + i by omega]
  rw [← hu]
  rcases (show i = 0 ∨ i = 1 ∨ i = 2 ∨ i = 3 ∨ i = 4 by omega) with rfl | rfl | rfl | rfl | rfl
  · exact c0
  · exact c1
  · exact c2
  · exact c3
  · exact c4
theorem own_empty {w : World} : (w.alloc (.cells #[] 42)).ownsRow w.heap.size 42 5 (.slice (some ⟨w.heap.size, 0, none⟩) 0 0) 0 (pnC []) :=
  ⟨rfl, .inr ⟨w.heap.size, 0, #[], rfl, Nat.le_refl _, heap_alloc_new w _, Nat.le_refl _, by simp [maxLen], rfl, rfl⟩⟩
theorem pnC_one : ∀ l : List Pn, ∀ u ∈ pnC l, u.oneCell' = true
  | [], u, h => by cases h
  | x :: l, u, h => by
    change u ∈ c5 x ++ pnC l at h
    rcases List.mem_append.1 h with h | h
    · simp [c5] at h
      rcases h with rfl | rfl | rfl | rfl | rfl <;> rfl
    · exact pnC_one l u h
set_option maxRecDepth 100000 in
set_option maxHeartbeats 4000000 in
theorem rrepeat_any (A : Option Addr) (m c : Nat) (l : List Pn) (w : World) (hl : Hid (l.length = m)) (hr : Hid (Rp w w.heap.size A l)) (h1 : 1 ≤ m) (h2 : m ≤ 100000) :
    Calls Tryz.prog 26 #[.slice A m c] w fun e w' => ∃ v, e = .returned v ∧ w'.ownsRow w.heap.size 42 5 v (l ++ [(4, 0, 0, ((m - 1 : Nat) : Int), 0)]).length (pnC (l ++ [(4, 0, 0, ((m - 1 : Nat) : Int), 0)])) ∧ Below w.heap.size w w' := by
  obtain ⟨i0, hi, hz0, hz1, hz2⟩ := info_parts Tryz.infoPn
  obtain ⟨b, o, e, hb, hc⟩ := hr.out (by rw [hl.out]; omega)
  subst e
  have hr1 := Lib.hid (hr.out.below ((Below.refl w.heap.size w).alloc (Nat.le_refl _) (.cells #[] 42)))
  have HO := Lib.hid (own_empty (w := w))
  have HB := Lib.hid ((Below.refl w.heap.size w).alloc (Nat.le_refl _) (.cells #[] 42))
  have HM := Lib.hid (show (m : Int) - 1 = ((m - 1 : Nat) : Int) by omega)
  have hm0 : (0 : Int) ≤ (m : Int) := by omega
  have hmI : (m : Int) ≤ 100000 := by omega
  clear hc
  go_enter Tryz.func26, Tryz.ntmps26
  go_wp2_with (at_builtin; refine wpList_append_lies _ rfl _ _ _ rfl w.heap.size 42 i0 _ 5 40 Tryz.underlying25 hi hz0 hz1 hz2 rfl (by omega) (.slice (some ⟨w.heap.size, 0, none⟩) 0 0) 0 (pnC []) rfl HO.out ⟨b, o, none⟩ m c (pnC l) rfl (by rw [pnC_len, hl.out]) (rp_news hr1.out) (pnC_one l) (by omega) (by simp only [maxLen]; omega) (by omega) (by simp) _ rfl ?_)
  intro g1 c1 w2 hown hgrow hat hlt
  have HO2 := Lib.hid (show w2.ownsRow w.heap.size 42 5 (.slice (some ⟨g1, 0, none⟩) m c1) m (pnC l) from by simpa [pnC] using hown)
  have HB2 := Lib.hid (HB.out.grown hgrow (by simp) (fun r e => (HO.out.lt r e).1))
  have HG := Lib.hid (World.ownsRow.lt HO2.out g1 rfl)
  clear hown hgrow hat hlt HO HB hr1
  have hB2 : w.heap.size ≤ w2.heap.size := HB2.out.size
  go_wp2_with (at_builtin; refine wpList_append_lies _ rfl _ _ _ rfl w.heap.size 42 i0 _ 5 40 Tryz.underlying25 hi hz0 hz1 hz2 rfl (by omega) (.slice (some ⟨g1, 0, none⟩) m c1) m (pnC l) rfl (HO2.out.alloc _) _ _ _ (c5 (4, 0, 0, (m : Int) - 1, 0)) rfl rfl (World.news_of_block (heap_alloc_new _ _)) (by simp [c5, Value.oneCell']) (by omega) (by simp only [maxLen]; omega) (by omega) (by simp; omega) _ rfl ?_)
  intro g2 c2 w4 hown hgrow hat hlt
  have HO4 := Lib.hid hown
  have HB4 := Lib.hid ((HB2.out.alloc HB2.out.size _).grown hgrow (by simp; omega) (fun r e => by cases e; exact HG.out.1))
  clear hown hgrow hat hlt
  go_wp2
  go_ret
  refine ⟨_, rfl, ?_, HB4.out⟩
  have := HO4.out
  rw [pnC_snoc, len1, hl.out, ← HM.out]
  exact this

end Go.Proofs.YtfkljlncnfeklaaGreatDoor

/-! The reference's join. -/
namespace Go.Proofs.YtfkljlncnfeklaaGreatDoor
open Go.RowKit Go.Shelf
set_option linter.unusedVariables false
set_option linter.unusedSimpArgs false
attribute [local go_sem ↓] Go.wp_at_zero Go.wp_at_succ

/-- what join makes -/
def jnN (k : Int) (a b : List Pn) : List Pn := a ++ b.map (shN a.length) ++ [(k, 0, 0, (a.length : Int) - 1, (a.length : Int) + (b.length : Int) - 1)]
theorem ro_ar (k : Int) : (roP k).1 = (arP k : Int) := by
  unfold roP arP
  split
  · next h => rcases h with h | h <;> subst h <;> rfl
  · split
    · next h => subst h; rfl
    · split
      · next h => rcases h with h | h <;> subst h <;> rfl
      · next h1 h2 h3 =>
        have : ¬ k = 2 ∧ ¬ k = 3 := ⟨fun e => h3 (.inl e), fun e => h3 (.inr e)⟩
        simp [this.1, this.2, h2]
theorem ar_cases (k : Int) : arP k = 0 ∨ arP k = 1 ∨ arP k = 2 := by
  unfold arP
  split
  · right; right; rfl
  · split
    · right; right; rfl
    · split
      · right; left; rfl
      · left; rfl
theorem take_pn {l : List Pn} {i : Nat} (h : i < l.length) (f : Pn → Pn) : (l.take (i + 1)).map f = (l.take i).map f ++ [f (pk l i, plo l i, phi l i, pa l i, pb l i)] := by
  rw [List.take_succ_eq_append_getElem h, List.map_append, List.map_singleton]
  congr 2
  unfold pk plo phi pa pb
  rw [List.getD_eq_getElem?_getD, List.getElem?_eq_getElem h]
  rfl
theorem heap_new2 (w : World) (o : Obj) (x : Pn) : ((w.alloc o).alloc (.cells #[.int .i64 x.1, .int .i64 x.2.1, .int .i64 x.2.2.1, .int .i64 x.2.2.2.1, .int .i64 x.2.2.2.2] 42)).heap[w.heap.size + 1]? = some (.cells (c5 x).toArray 42 (0, 0)) := by
  have := heap_alloc_new (w.alloc o) (.cells #[.int .i64 x.1, .int .i64 x.2.1, .int .i64 x.2.2.1, .int .i64 x.2.2.2.1, .int .i64 x.2.2.2.2] 42)
  rw [World.size_alloc] at this
  exact this
set_option maxRecDepth 100000 in
set_option maxHeartbeats 4000000 in
theorem rjoin_any (k : Int) (A A' : Option Addr) (m c m' c' : Nat) (l l' : List Pn) (w : World) (hl : Hid (l.length = m)) (hl' : Hid (l'.length = m')) (hr : Hid (Rp w w.heap.size A l)) (hr' : Hid (Rp w w.heap.size A' l')) (h1 : 1 ≤ m) (h2 : m ≤ 50000) (h2' : m' ≤ 50000) (hf : ∀ j, j < m' → 0 ≤ pa l' j ∧ pa l' j ≤ 1000000 ∧ 0 ≤ pb l' j ∧ pb l' j ≤ 1000000) :
    Calls Tryz.prog 27 #[.int .i64 k, .slice A m c, .slice A' m' c'] w fun e w' => ∃ v, e = .returned v ∧ w'.ownsRow w.heap.size 42 5 v (jnN k l l').length (pnC (jnN k l l')) ∧ Below w.heap.size w w' := by
  obtain ⟨i0, hi, hz0, hz1, hz2⟩ := info_parts Tryz.infoPn
  obtain ⟨b, o, e, hb, hc⟩ := hr.out (by rw [hl.out]; omega)
  subst e
  have hr1 := Lib.hid (hr.out.below ((Below.refl w.heap.size w).alloc (Nat.le_refl _) (.cells #[] 42)))
  have HO := Lib.hid (own_empty (w := w))
  have HB := Lib.hid ((Below.refl w.heap.size w).alloc (Nat.le_refl _) (.cells #[] 42))
  have hm0 : (0 : Int) ≤ (m : Int) := by omega
  have hmI : (m : Int) ≤ 50000 := by omega
  have HF := Lib.hid hf
  clear hc hf
  go_enter Tryz.func27, Tryz.ntmps27
  go_upto_region 3 with (at_builtin; refine wpList_append_lies _ rfl _ _ _ rfl w.heap.size 42 i0 _ 5 40 Tryz.underlying25 hi hz0 hz1 hz2 rfl (by omega) (.slice (some ⟨w.heap.size, 0, none⟩) 0 0) 0 (pnC []) rfl HO.out ⟨b, o, none⟩ m c (pnC l) rfl (by rw [pnC_len, hl.out]) (rp_news hr1.out) (pnC_one l) (by omega) (by simp only [maxLen]; omega) (by omega) (by simp) _ rfl ?_; intro g1 c1 w2 hown hgrow hat hlt; have HO2 := Lib.hid hown; have HB2 := Lib.hid (HB.out.grown hgrow (by simp) (fun r e => (HO.out.lt r e).1)); clear hown hgrow hat hlt)
  have S0 : w2.ownsRow w.heap.size 42 5 (.slice (some ⟨g1, 0, none⟩) m c1) (m + 0) (pnC (l ++ (l'.take 0).map (shN m))) := by
    have := HO2.out
    simpa [pnC] using this
  have HS0 := Lib.hid S0
  clear S0 HO2 HO HB hr1
  go_wp2
  go_loopw [7, 8] (fun v7 v8 wr => ∃ i : Nat, i ≤ m' ∧ v8 = .int .i64 (i : Int) ∧ Hid (wr.ownsRow w.heap.size 42 5 v7 (m + i) (pnC (l ++ (l'.take i).map (shN m)))) ∧ Hid (Below w.heap.size w wr)) (fun v7 v8 wr => m' - (intOf v8).toNat)
  case atStart => exact ⟨0, Nat.zero_le _, rfl, HS0, HB2⟩
  case round =>
    clear HS0 HB2
    obtain ⟨i, hi', rfl, HOW, HBW⟩ := hrel
    have hiI : (i : Int) ≤ 50000 := by omega
    by_cases hlt : i < m'
    · have hrw := hr'.out.below HBW.out
      obtain ⟨b', o', e', hb', hc'⟩ := hrw (by rw [hl'.out]; omega)
      subst e'
      obtain ⟨d0, d1, d2, d3, d4⟩ := hc' i (by rw [hl'.out]; exact hlt)
      obtain ⟨f1, f2, f3, f4⟩ := HF.out i hlt
      have HTK := Lib.hid (take_pn (l := l') (i := i) (by rw [hl'.out]; exact hlt) (shN m))
      have i1 : (0 : Int) ≤ (i : Int) := by omega
      have i2 : (i : Int) < (m' : Int) := by omega
      have hBw : w.heap.size ≤ wr.heap.size := HBW.out.size
      obtain ⟨An, cn, en, _, _⟩ := own_form HOW.out
      subst en
      clear hc' hrw
      generalize pk l' i = K at *
      generalize plo l' i = LO at *
      generalize phi l' i = HI at *
      generalize pa l' i = PA at *
      generalize pb l' i = PB at *
      rcases ar_cases K with har | har | har
      · have HOP : Hid (Calls Tryz.prog 40 #[.int .i64 K] (wr.alloc (.cells #[.int .i64 K, .int .i64 LO, .int .i64 HI, .int .i64 PA, .int .i64 PB] 42)) fun e w' => e = .returned (.tuple #[.int .i64 0, .bool (roP K).2]) ∧ w' = wr.alloc (.cells #[.int .i64 K, .int .i64 LO, .int .i64 HI, .int .i64 PA, .int .i64 PB] 42)) := Lib.hid ((roperands_any K _).mono fun e w' ⟨p, q⟩ => ⟨by rw [p, ro_ar, har]; rfl, q⟩)
        have HSH := Lib.hid (show shN m (K, LO, HI, PA, PB) = (K, LO, HI, PA, PB) by simp [shN, har])
        clear har
        go_wp2_with (first
          | (go_at_call 40; with_reducible refine HOP.out.mono ?_; rintro e w3 ⟨rfl, hw⟩; subst hw)
          | (at_builtin; refine wpList_append_lies _ rfl _ _ _ rfl w.heap.size 42 i0 _ 5 40 Tryz.underlying25 hi hz0 hz1 hz2 rfl (by omega) (.slice An (m + i) cn) (m + i) (pnC (l ++ (l'.take i).map (shN m))) rfl ((HOW.out.alloc _).alloc _) _ _ _ (c5 (K, LO, HI, PA, PB)) rfl rfl (World.news_of_block (heap_new2 wr _ (K, LO, HI, PA, PB))) (by simp [c5, Value.oneCell']) (by omega) (by simp only [maxLen]; omega) (by omega) (by simp; omega) _ rfl ?_))
        intro g2 c2 w4 hown hgrow hat hlt2
        have HO4 := Lib.hid (show w4.ownsRow w.heap.size 42 5 (.slice (some ⟨g2, 0, none⟩) (m + i + 1) c2) (m + (i + 1)) (pnC (l ++ (l'.take (i + 1)).map (shN m))) by rw [HTK.out, HSH.out, ← List.append_assoc, pnC_snoc, List.map_take]; exact hown)
        have HB4 := Lib.hid (((HBW.out.alloc hBw _).alloc (by simp; omega) _).grown hgrow (by simp; omega) (fun r e => (HOW.out.lt r e).1))
        clear hown hgrow hat hlt2
        go_wp2
        go_roundw
        case rel => exact ⟨i + 1, hlt, rfl, HO4, HB4⟩
        case measure => simp only [intOf]; omega
      · have HOP : Hid (Calls Tryz.prog 40 #[.int .i64 K] (wr.alloc (.cells #[.int .i64 K, .int .i64 LO, .int .i64 HI, .int .i64 PA, .int .i64 PB] 42)) fun e w' => e = .returned (.tuple #[.int .i64 1, .bool (roP K).2]) ∧ w' = wr.alloc (.cells #[.int .i64 K, .int .i64 LO, .int .i64 HI, .int .i64 PA, .int .i64 PB] 42)) := Lib.hid ((roperands_any K _).mono fun e w' ⟨p, q⟩ => ⟨by rw [p, ro_ar, har]; rfl, q⟩)
        have HSH := Lib.hid (show shN m (K, LO, HI, PA, PB) = (K, LO, HI, PA + (m : Int), PB) by simp [shN, har])
        clear har
        go_wp2_with (first
          | (go_at_call 40; with_reducible refine HOP.out.mono ?_; rintro e w3 ⟨rfl, hw⟩; subst hw)
          | (at_builtin; refine wpList_append_lies _ rfl _ _ _ rfl w.heap.size 42 i0 _ 5 40 Tryz.underlying25 hi hz0 hz1 hz2 rfl (by omega) (.slice An (m + i) cn) (m + i) (pnC (l ++ (l'.take i).map (shN m))) rfl ((HOW.out.alloc _).alloc _) _ _ _ (c5 (K, LO, HI, PA + (m : Int), PB)) rfl rfl (World.news_of_block (heap_new2 wr _ (K, LO, HI, PA + (m : Int), PB))) (by simp [c5, Value.oneCell']) (by omega) (by simp only [maxLen]; omega) (by omega) (by simp; omega) _ rfl ?_))
        intro g2 c2 w4 hown hgrow hat hlt2
        have HO4 := Lib.hid (show w4.ownsRow w.heap.size 42 5 (.slice (some ⟨g2, 0, none⟩) (m + i + 1) c2) (m + (i + 1)) (pnC (l ++ (l'.take (i + 1)).map (shN m))) by rw [HTK.out, HSH.out, ← List.append_assoc, pnC_snoc, List.map_take]; exact hown)
        have HB4 := Lib.hid (((HBW.out.alloc hBw _).alloc (by simp; omega) _).grown hgrow (by simp; omega) (fun r e => (HOW.out.lt r e).1))
        clear hown hgrow hat hlt2
        go_wp2
        go_roundw
        case rel => exact ⟨i + 1, hlt, rfl, HO4, HB4⟩
        case measure => simp only [intOf]; omega
      · have HOP : Hid (Calls Tryz.prog 40 #[.int .i64 K] (wr.alloc (.cells #[.int .i64 K, .int .i64 LO, .int .i64 HI, .int .i64 PA, .int .i64 PB] 42)) fun e w' => e = .returned (.tuple #[.int .i64 2, .bool (roP K).2]) ∧ w' = wr.alloc (.cells #[.int .i64 K, .int .i64 LO, .int .i64 HI, .int .i64 PA, .int .i64 PB] 42)) := Lib.hid ((roperands_any K _).mono fun e w' ⟨p, q⟩ => ⟨by rw [p, ro_ar, har]; rfl, q⟩)
        have HSH := Lib.hid (show shN m (K, LO, HI, PA, PB) = (K, LO, HI, PA + (m : Int), PB + (m : Int)) by simp [shN, har])
        clear har
        go_wp2_with (first
          | (go_at_call 40; with_reducible refine HOP.out.mono ?_; rintro e w3 ⟨rfl, hw⟩; subst hw)
          | (at_builtin; refine wpList_append_lies _ rfl _ _ _ rfl w.heap.size 42 i0 _ 5 40 Tryz.underlying25 hi hz0 hz1 hz2 rfl (by omega) (.slice An (m + i) cn) (m + i) (pnC (l ++ (l'.take i).map (shN m))) rfl ((HOW.out.alloc _).alloc _) _ _ _ (c5 (K, LO, HI, PA + (m : Int), PB + (m : Int))) rfl rfl (World.news_of_block (heap_new2 wr _ (K, LO, HI, PA + (m : Int), PB + (m : Int)))) (by simp [c5, Value.oneCell']) (by omega) (by simp only [maxLen]; omega) (by omega) (by simp; omega) _ rfl ?_))
        intro g2 c2 w4 hown hgrow hat hlt2
        have HO4 := Lib.hid (show w4.ownsRow w.heap.size 42 5 (.slice (some ⟨g2, 0, none⟩) (m + i + 1) c2) (m + (i + 1)) (pnC (l ++ (l'.take (i + 1)).map (shN m))) by rw [HTK.out, HSH.out, ← List.append_assoc, pnC_snoc, List.map_take]; exact hown)
        have HB4 := Lib.hid (((HBW.out.alloc hBw _).alloc (by simp; omega) _).grown hgrow (by simp; omega) (fun r e => (HOW.out.lt r e).1))
        clear hown hgrow hat hlt2
        go_wp2
        go_roundw
        case rel => exact ⟨i + 1, hlt, rfl, HO4, HB4⟩
        case measure => simp only [intOf]; omega
    · obtain rfl : i = m' := by omega
      have htk : l'.take i = l' := List.take_of_length_le (by rw [hl'.out]; exact Nat.le_refl _)
      rw [htk] at HOW
      obtain ⟨An, cn, en, _, _⟩ := own_form HOW.out
      subst en
      have hBw : w.heap.size ≤ wr.heap.size := HBW.out.size
      go_wp2_with (at_builtin; refine wpList_append_lies _ rfl _ _ _ rfl w.heap.size 42 i0 _ 5 40 Tryz.underlying25 hi hz0 hz1 hz2 rfl (by omega) (.slice An (m + i) cn) (m + i) (pnC (l ++ l'.map (shN m))) rfl (HOW.out.alloc _) _ _ _ (c5 (k, 0, 0, (m : Int) - 1, (m : Int) + (i : Int) - 1)) rfl rfl (World.news_of_block (heap_alloc_new _ _)) (by simp [c5, Value.oneCell']) (by omega) (by simp only [maxLen]; omega) (by omega) (by simp; omega) _ rfl ?_)
      intro g2 c2 w4 hown hgrow hat hlt2
      have HO4 := Lib.hid hown
      have HB4 := Lib.hid ((HBW.out.alloc hBw _).grown hgrow (by simp; omega) (fun r e => (HOW.out.lt r e).1))
      clear hown hgrow hat hlt2
      go_wp2
      go_ret
      refine ⟨_, rfl, ?_, HB4.out⟩
      have := HO4.out
      have hj : jnN k l l' = l ++ l'.map (shN m) ++ [(k, 0, 0, (m : Int) - 1, (m : Int) + (i : Int) - 1)] := by unfold jnN; rw [hl.out, hl'.out]
      rw [hj, pnC_snoc, len1, List.length_append, List.length_map, hl.out, hl'.out]
      exact this

end Go.Proofs.YtfkljlncnfeklaaGreatDoor

/-! The law's own: uses. -/
namespace Go.Proofs.YtfkljlncnfeklaaGreatDoor
open Go.RowKit Go.Shelf
set_option linter.unusedVariables false
set_option linter.unusedSimpArgs false
attribute [local go_sem ↓] Go.wp_at_zero Go.wp_at_succ

/-- the node uses node i -/
def usW (x : Pn) (i : Int) : Bool := (decide (x.1 = 4) && decide (x.2.2.2.1 = i)) || ((decide (x.1 = 2) || decide (x.1 = 3)) && (decide (x.2.2.2.1 = i) || decide (x.2.2.2.2 = i)))
theorem us_cells (w : World) (a0 a1 a2 a3 a4 : Value) : (w.alloc (.cells #[a0, a1, a2, a3, a4] 42)).cell? ⟨w.heap.size, 0, none⟩ = some a0 ∧ (w.alloc (.cells #[a0, a1, a2, a3, a4] 42)).cell? ⟨w.heap.size, 3, none⟩ = some a3 ∧ (w.alloc (.cells #[a0, a1, a2, a3, a4] 42)).cell? ⟨w.heap.size, 4, none⟩ = some a4 :=
  ⟨by rw [cell_of_row _ _ 0 _ _ _ (heap_alloc_new w _)]; rfl, by rw [cell_of_row _ _ 3 _ _ _ (heap_alloc_new w _)]; rfl, by rw [cell_of_row _ _ 4 _ _ _ (heap_alloc_new w _)]; rfl⟩
end Go.Proofs.YtfkljlncnfeklaaGreatDoor

/-! The law's own: exchanged. -/
namespace Go.Proofs.YtfkljlncnfeklaaGreatDoor
open Go.RowKit Go.Shelf
set_option linter.unusedVariables false
set_option linter.unusedSimpArgs false
attribute [local go_sem ↓] Go.wp_at_zero Go.wp_at_succ

/-- uses says how often a node is used -/
theorem usW_cu (x : Pn) (i : Int) : usW x i = decide (cu x i ≠ 0) := by
  obtain ⟨k, lo, hi, a, b⟩ := x
  unfold usW cu arP
  by_cases h2 : k = 2
  · subst h2
    by_cases ha : a = i <;> by_cases hb : b = i <;> simp [ha, hb]
  · by_cases h3 : k = 3
    · subst h3
      by_cases ha : a = i <;> by_cases hb : b = i <;> simp [ha, hb]
    · by_cases h4 : k = 4
      · subst h4
        by_cases ha : a = i <;> simp [ha]
      · simp [h2, h3, h4]

end Go.Proofs.YtfkljlncnfeklaaGreatDoor

/-! The law's own: word. -/
namespace Go.Proofs.YtfkljlncnfeklaaGreatDoor
open Go.RowKit Go.Shelf
set_option linter.unusedVariables false
set_option linter.unusedSimpArgs false
attribute [local go_sem ↓] Go.wp_at_zero Go.wp_at_succ

/-- a slice of bytes in memory below B -/
def Rby (w : World) (B : Nat) (A : Option Addr) (l : List UInt8) : Prop := 0 < l.length → ∃ b o, A = some ⟨b, o, none⟩ ∧ b < B ∧ ∀ j, ∀ h : j < l.length, w.cell? ⟨b, o + j, none⟩ = some (.int .u8 (((l[j]'h).toNat : Nat) : Int))
theorem Rby.below {w w' : World} {B : Nat} {A : Option Addr} {l : List UInt8} (h : Rby w B A l) (hb : Below B w w') : Rby w' B A l := fun h0 => by
  obtain ⟨b, o, e, hB, hc⟩ := h h0
  exact ⟨b, o, e, hB, fun j hj => (hb.cell (p := ⟨b, _, none⟩) hB).trans (hc j hj)⟩
/-- a word over a, b, c -/
def wdB (l : List UInt8) : List UInt8 := l.map fun b => UInt8.ofNat (97 + b.toNat % 3)
theorem wd_num (b : UInt8) : (97 : Int) + ((b.toNat : Nat) : Int) % 3 = (((UInt8.ofNat (97 + b.toNat % 3)).toNat : Nat) : Int) := by
  have h : (UInt8.ofNat (97 + b.toNat % 3)).toNat = 97 + b.toNat % 3 := by simp; omega
  rw [h]
  omega
theorem addr_add' (b o n : Nat) : (⟨b, o, none⟩ : Addr).add n = ⟨b, o + n, none⟩ := by
  unfold Addr.add
  split
  · next h => subst h; rfl
  · rfl
theorem own_empty8 {w : World} : (w.alloc (.cells #[] 5)).ownsRow w.heap.size 5 1 (.slice (some ⟨w.heap.size, 0, none⟩) 0 0) 0 [] :=
  ⟨rfl, .inr ⟨w.heap.size, 0, #[], rfl, Nat.le_refl _, heap_alloc_new w _, Nat.le_refl _, by simp [maxLen], rfl, rfl⟩⟩
end Go.Proofs.YtfkljlncnfeklaaGreatDoor
