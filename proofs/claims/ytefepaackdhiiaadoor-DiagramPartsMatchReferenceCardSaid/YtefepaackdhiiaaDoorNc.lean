/-
  Plain mathematics and contracts of package diagram, several texts in one: PFx.
-/
import Derived.Test.YtefepaackdhiiaaDoorMz
namespace Go.Proofs.YtefepaackdhiiaaDoor
namespace St
open Dg
structure FI (M : List Br) (v : Nat) (b : Bool) (k : Nat) (O : List Br) (num : Nat → Nat) : Prop where
  good : Good O
  lt : ∀ j, j < k + 2 → num j < O.length + 2
  den : ∀ j, j < k + 2 → Den O (num j) = fun c => Den M j (set c v b)
  lev : ∀ j, j < k + 2 → Dg.lev M j ≤ Dg.lev O (num j)
  small : O.length ≤ k
theorem fi_start (M : List Br) (v : Nat) (b : Bool) : FI M v b 0 [] (fun j => j) := by
  refine ⟨good_nil, fun j hj => by simpa using hj, fun j hj => ?_, fun j hj => ?_, by simp⟩
  · obtain rfl | rfl : j = 0 ∨ j = 1 := by omega
    · rw [Den_zero, Den_zero]
    · rw [Den_one, Den_one]
  · rw [lev_const (by omega), lev_const (by omega)]; omega
def fx0 (M : List Br) (v : Nat) (b : Bool) (num : Nat → Nat) (k : Nat) : Nat := if bv M k = v then (if b then num (bh M k) else num (bl M k)) else num (bl M k)
def fx1 (M : List Br) (v : Nat) (b : Bool) (num : Nat → Nat) (k : Nat) : Nat := if bv M k = v then (if b then num (bh M k) else num (bl M k)) else num (bh M k)
def fxU (O : List Br) (b : Br) : List Br × Nat := if b.2.1 = b.2.2 then (O, b.2.1) else ins O b
theorem FI.step {M O : List Br} {v k : Nat} {b : Bool} {num : Nat → Nat} (hM : Ord M) (hk : k < M.length) (h : FI M v b k O num) :
    FI M v b (k + 1) (fxU O (bv M k, fx0 M v b num k, fx1 M v b num k)).1 (upd num (k + 2) (fxU O (bv M k, fx0 M v b num k, fx1 M v b num k)).2) := by
  obtain ⟨hb, hl, hh, hvl, hvh⟩ := hM k hk
  have x0 : fx0 M v b num k < O.length + 2 := by unfold fx0; split; split; exact h.lt _ (by omega); exact h.lt _ (by omega); exact h.lt _ (by omega)
  have x1 : fx1 M v b num k < O.length + 2 := by unfold fx1; split; split; exact h.lt _ (by omega); exact h.lt _ (by omega); exact h.lt _ (by omega)
  have l0 : bv M k < Dg.lev O (fx0 M v b num k) := by
    have a := h.lev (bl M k) (by omega)
    have c := h.lev (bh M k) (by omega)
    unfold fx0; split; split; omega; omega; omega
  have l1 : bv M k < Dg.lev O (fx1 M v b num k) := by
    have a := h.lev (bl M k) (by omega)
    have c := h.lev (bh M k) (by omega)
    unfold fx1; split; split; omega; omega; omega
  have dk : ∀ c, Den M (k + 2) (set c v b) = if c (bv M k) then Den O (fx1 M v b num k) c else Den O (fx0 M v b num k) c := by
    intro c
    have dl := congrFun (h.den (bl M k) (by omega)) c
    have dh := congrFun (h.den (bh M k) (by omega)) c
    rw [Den_br hM hk]
    by_cases e : bv M k = v
    · have e1 : fx0 M v b num k = if b then num (bh M k) else num (bl M k) := if_pos e
      have e2 : fx1 M v b num k = if b then num (bh M k) else num (bl M k) := if_pos e
      rw [e1, e2, e, set_same, ite_self]
      cases b
      · exact dl.symm
      · exact dh.symm
    · have e1 : fx0 M v b num k = num (bl M k) := if_neg e
      have e2 : fx1 M v b num k = num (bh M k) := if_neg e
      rw [e1, e2, dl, dh, set_other e]
  generalize fx0 M v b num k = x at *
  generalize fx1 M v b num k = y at *
  -- the new list and number
  have key : ∀ O' r, Good O' → (∃ X, O' = O ++ X) → r < O'.length + 2 → (Den O' r = fun c => Den M (k + 2) (set c v b)) → bv M k ≤ Dg.lev O' r → O'.length ≤ k + 1 → FI M v b (k + 1) O' (upd num (k + 2) r) := by
    intro O' r g ⟨X, hX⟩ hr hd hlv hs
    refine ⟨g, fun j hj => ?_, fun j hj => ?_, fun j hj => ?_, hs⟩
    · unfold upd
      by_cases e : j = k + 2
      · rw [if_pos e]; exact hr
      · rw [if_neg e]; have := h.lt j (by omega); rw [hX, List.length_append]; omega
    · unfold upd
      by_cases e : j = k + 2
      · rw [if_pos e, e]; exact hd
      · rw [if_neg e, hX, Den_pre h.good.ord (h.lt j (by omega))]; exact h.den j (by omega)
    · unfold upd
      by_cases e : j = k + 2
      · rw [if_pos e, e, Dg.lev_br]; exact hlv
      · rw [if_neg e, hX, lev_pre (h.lt j (by omega))]; exact h.lev j (by omega)
  have hsm := h.small
  unfold fxU
  by_cases e : x = y
  · rw [if_pos (show (bv M k, x, y).2.1 = (bv M k, x, y).2.2 from e)]
    refine key O x h.good ⟨[], by simp⟩ x0 ?_ (by omega) (by omega)
    funext c
    rw [dk c, ← e, ite_self]
  · rw [if_neg (show ¬ (bv M k, x, y).2.1 = (bv M k, x, y).2.2 from e)]
    by_cases hin : (bv M k, x, y) ∈ O
    · rw [ins_in hin]
      have hj : O.idxOf (bv M k, x, y) < O.length := List.idxOf_lt_length_iff.2 hin
      have hget : O[O.idxOf (bv M k, x, y)] = (bv M k, x, y) := List.getElem_idxOf hj
      have hat := br_at hj
      rw [hget] at hat
      generalize O.idxOf (bv M k, x, y) = j at *
      have e1 : bv O j = bv M k := (congrArg (·.1) hat).symm
      have e2 : bl O j = x := (congrArg (·.2.1) hat).symm
      have e3 : bh O j = y := (congrArg (·.2.2) hat).symm
      refine key O (j + 2) h.good ⟨[], by simp⟩ (by omega) ?_ (by rw [Dg.lev_br, e1]; omega) (by omega)
      funext c
      rw [Den_br h.good.ord hj, e1, e2, e3, dk c]
    · rw [ins_not hin]
      have g := h.good.snoc hin hb x0 x1 l0 l1 e
      refine key (O ++ [(bv M k, x, y)]) (O.length + 2) g ⟨_, rfl⟩ (by simp) ?_ (by rw [Dg.lev_br, bv_new]; exact Nat.le_refl _) (by simp; omega)
      funext c
      rw [Den_br g.ord (by simp), bv_new, bl_new, bh_new, Den_pre h.good.ord x0, Den_pre h.good.ord x1, dk c]
theorem fi_all {M : List Br} (hM : Ord M) (v : Nat) (b : Bool) : ∀ k, k ≤ M.length → ∃ O num, FI M v b k O num
  | 0, _ => ⟨_, _, fi_start M v b⟩
  | k + 1, hk => by
    obtain ⟨O, num, h⟩ := fi_all hM v b k (by omega)
    exact ⟨_, _, h.step hM (by omega)⟩
theorem fix_size {f : Cfg → Bool} (hf : D64 f) (v : Nat) (b : Bool) : (cn (fun x => f (set x v b))).1.length ≤ (cn f).1.length := by
  have hv := cn_valid hf
  obtain ⟨O, num, h⟩ := fi_all hv.good.ord v b (cn f).1.length (Nat.le_refl _)
  have hd := h.den (cn f).2 (by have := hv.lt; omega)
  rw [cn_den hf] at hd
  have hs := cn_size h.good (n := num (cn f).2) (h.lt _ (by have := hv.lt; omega))
  rw [hd] at hs
  exact Nat.le_trans hs h.small
end St
end Go.Proofs.YtefepaackdhiiaaDoor
