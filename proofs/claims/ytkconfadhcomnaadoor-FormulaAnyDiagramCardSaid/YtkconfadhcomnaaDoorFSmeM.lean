/-
  The reference's Same of two formulas; formula.Text.
-/
import Derived.Test.YtkconfadhcomnaaDoorFOfM
import Derived.Test.YtkconfadhcomnaaDoorFi
namespace Go.Proofs.YtkconfadhcomnaaDoor
open Go.RowKit Dg St
set_option linter.unusedVariables false
set_option linter.unusedSimpArgs false
attribute [local go_sem ↓] Go.wp_at_zero Go.wp_at_succ

theorem run_neq_fn (w : World) (a b c d x y z u : Int) :
    (binOp .neq 53 (.agg #[.int .i64 a, .int .i64 b, .int .i64 c, .int .i64 d]) (.agg #[.int .i64 x, .int .i64 y, .int .i64 z, .int .i64 u])).run Tryd.prog w = .ok (.bool (!(a == x && (b == y && (c == z && d == u))))) w := by
  have h := run_eql_fn w a b c d x y z u
  have hf : Tryd.prog.underlying 53 = some (.struct (Tryd.prog.fieldsOf 53)) := by kernel_rfl
  rw [run_eql_struct] at h
  rw [run_neq_struct]
  rcases hh : (Op.equalIn 10000 53 (.agg #[.int .i64 a, .int .i64 b, .int .i64 c, .int .i64 d]) (.agg #[.int .i64 x, .int .i64 y, .int .i64 z, .int .i64 u])).run Tryd.prog w with _ | _ <;> rw [hh] at h <;> simp [Result.andThen] at h ⊢
  simp [h]
def EqF (l l' : List Fi) (k : Nat) : Prop := ∀ j, j < k → fo l j = fo l' j ∧ fv l j = fv l' j ∧ fa l j = fa l' j ∧ fb l j = fb l' j
theorem eqF_all {l l' : List Fi} (h : EqF l l' l.length) (hl : l.length = l'.length) : l = l' := by
  apply List.ext_getElem hl
  intro i h1 h2
  obtain ⟨a, b, c, d⟩ := h i h1
  unfold fo fv fa fb at *
  rw [List.getD_eq_getElem?_getD, List.getD_eq_getElem?_getD, List.getElem?_eq_getElem h1, List.getElem?_eq_getElem h2] at a b c d
  exact Prod.ext a (Prod.ext b (Prod.ext c d))

set_option maxHeartbeats 4000000 in
set_option maxRecDepth 100000 in
theorem qsame_any (A A' : Option Addr) (m c m' c' : Nat) (l l' : List Fi) (w : World) (hl : Hid (l.length = m)) (hl' : Hid (l'.length = m')) (hm : m ≤ 1000000) (hr : Hid (Rf w w.heap.size A l)) (hr' : Hid (Rf w w.heap.size A' l')) :
    Calls Tryd.prog 18 #[.slice A m c, .slice A' m' c'] w fun e w' => e = .returned (.bool (decide (l = l'))) ∧ Below w.heap.size w w' := by
  by_cases hmm : m = m'
  rotate_left
  · have b1 : ((m : Int) != (m' : Int)) = true := bne_iff_ne.2 (by omega)
    have hn : l ≠ l' := fun e => hmm (by rw [← hl.out, ← hl'.out, e])
    rw [decide_eq_false hn]
    clear hmm hn hr hr'
    go_enter Tryd.func18, Tryd.ntmps18
    go_wp2
    go_ret
    exact ⟨rfl, Below.refl _ _⟩
  subst hmm
  have b1 : ((m : Int) != (m : Int)) = false := by simp
  go_enter Tryd.func18, Tryd.ntmps18
  go_wp2
  go_loopw [5] (fun i wr => ∃ k j : Nat, k ≤ m ∧ i = .int .i64 (k : Int) ∧ Hid (EqF l l' k) ∧ wr = w.drewN j) (fun i _ => m - (intOf i).toNat)
  case atStart => exact ⟨0, 0, Nat.zero_le _, rfl, (fun j hj => absurd hj (by omega)), rfl⟩
  case round =>
    obtain ⟨k, j, hk, rfl, hno, rfl⟩ := hrel
    by_cases hlt : k < m
    · obtain ⟨b, o, e, hb, hc⟩ := hr.out (by rw [hl.out]; omega)
      obtain ⟨b', o', e', hb', hc'⟩ := hr'.out (by rw [hl'.out]; omega)
      subst e
      subst e'
      obtain ⟨c0, c1, c2, c3⟩ := hc k (by rw [hl.out]; exact hlt)
      obtain ⟨d0, d1, d2, d3⟩ := hc' k (by rw [hl'.out]; exact hlt)
      have HNX : Hid (fo l k = fo l' k ∧ fv l k = fv l' k ∧ fa l k = fa l' k ∧ fb l k = fb l' k → EqF l l' (k + 1)) := Lib.hid (fun he j hj => by
        rcases Nat.lt_or_ge j k with h | h
        · exact hno.out j h
        · rw [show j = k by omega]; exact he)
      have HNE : Hid (¬ (fo l k = fo l' k ∧ fv l k = fv l' k ∧ fa l k = fa l' k ∧ fb l k = fb l' k) → l ≠ l') := Lib.hid (fun h e => h (by rw [e]; exact ⟨rfl, rfl, rfl, rfl⟩))
      clear hc hc'
      generalize fo l k = O at *
      generalize fv l k = V at *
      generalize fa l k = X at *
      generalize fb l k = Y at *
      generalize fo l' k = O' at *
      generalize fv l' k = V' at *
      generalize fa l' k = X' at *
      generalize fb l' k = Y' at *
      have i1 : (0 : Int) ≤ (k : Int) := by omega
      have i2 : (k : Int) < (m : Int) := by omega
      have heq := fun W : World => run_neq_fn W O V X Y O' V' X' Y'
      by_cases q : O = O' ∧ V = V' ∧ X = X' ∧ Y = Y'
      · have hq : (O == O' && (V == V' && (X == X' && Y == Y'))) = true := by simp [q.1, q.2.1, q.2.2.1, q.2.2.2]
        have HN := Lib.hid (HNX.out q)
        rw [hq] at heq
        clear q hq HNX HNE
        go_wp2
        go_quiet (fail)
        go_wp2
        go_roundw
        case rel => exact ⟨k + 1, _, by omega, by go_num, HN, rfl⟩
        case measure => simp [intOf]; omega
      · have hq : (O == O' && (V == V' && (X == X' && Y == Y'))) = false := by
          rcases h : (O == O' && (V == V' && (X == X' && Y == Y'))) with _ | _
          · rfl
          · simp at h; exact absurd h q
        have HN := Lib.hid (HNE.out q)
        rw [hq] at heq
        clear q hq HNX HNE
        go_wp2
        go_quiet (fail)
        go_wp2
        go_ret
        exact ⟨ret_bool (decide_eq_false HN.out).symm, below_drewN (below_drewN (Below.refl _ _) _) _⟩
    · obtain rfl : k = m := by omega
      have HY := Lib.hid (eqF_all (by rw [hl.out]; exact hno.out) (by rw [hl.out, hl'.out]))
      go_wp2
      go_ret
      exact ⟨ret_bool (decide_eq_true HY.out).symm, below_drewN (Below.refl _ _) _⟩

end Go.Proofs.YtkconfadhcomnaaDoor
