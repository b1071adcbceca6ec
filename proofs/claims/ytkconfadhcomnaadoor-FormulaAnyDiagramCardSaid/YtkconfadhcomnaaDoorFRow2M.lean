/-
  A diagram that came in by value, opened (for a formula seat).
-/
import Derived.Test.YtkconfadhcomnaaDoorFRowM
import Derived.Test.YtkconfadhcomnaaDoorMc
import Derived.ProofKit
import Derived.OpenShut
import Derived.Lib.SmallJoins
import Derived.Deep.Slices
import Derived.Deep.Strs
namespace Go.Proofs.YtkconfadhcomnaaDoor
open Go.ChangeShapes Go.WideShapes Go.ChangeAt Go.RowKit Go.Deep

theorem Tryd.cellsBr3F : Tryd.prog.cellsOf 96 = 3 := by kernel_rfl
set_option maxRecDepth 100000 in
theorem br_cellsF {H : Type} {enc : TypeId × Value → H} {W : World} {base n : Nat} {cs : List Value} {y : DataW H × List MemPlace}
    (h : DataW.trod enc Tryd.prog W base (fun _ => true) true n 96 cs = some y) (hl : cs.length = 3) :
    ∃ q : Bi, cs = [.int .i64 q.1, .int .i64 q.2.1, .int .i64 q.2.2] ∧ I3 q := by
  obtain ⟨y0, y1, y2, k, _, _, t0, t1, t2⟩ := trod_struct3 Tryd.underlying96 h
  match cs, hl with
  | [v0, v1, v2], _ =>
    simp [Tryd.cellsInt1'] at t0 t1 t2
    obtain ⟨a, e0, _, w0⟩ := DataW.trod_int Tryd.underlying3 t0
    obtain ⟨b, e1, _, w1⟩ := DataW.trod_int Tryd.underlying3 t1
    obtain ⟨c, e2, _, w2⟩ := DataW.trod_int Tryd.underlying3 t2
    simp at e0 e1 e2
    subst e0 e1 e2
    exact ⟨(a, b, c), rfl, Go.bounds_i64 w0, Go.bounds_i64 w1, Go.bounds_i64 w2⟩

set_option maxRecDepth 100000 in
theorem dia_openF {H : Type} {enc : TypeId × Value → H} {W : World} {base : Nat} {r : Reach} {b0 : Nat} {v : Value} {d : DataW H} {p : List MemPlace}
    (hv : Value.okWide Tryd.prog W r b0 40 v) (h : DataW.Trod enc Tryd.prog W base (fun _ => true) true 40 v d p) :
    ∃ (A : Option Addr) (m c : Nat) (l : List Bi) (r : Int), v = .agg #[.slice A m c, .int .i64 r] ∧ Hid (m ≤ 40 → DOk W ⟨A, m, c, l, r⟩) := by
  obtain ⟨c0, c1, y0, y1, k, rfl, rfl, rfl, hy0, hy1⟩ := Joins.open_agg2 Tryd.underlying40 (by kernel_rfl) (by kernel_rfl) hv h
  obtain ⟨r, e1, _, wb⟩ := DataW.trod_int Tryd.underlying3 hy1
  simp at e1
  subst e1
  have hb := Go.bounds_i64 wb
  rcases open_slice Tryd.underlying38 hy0 with ⟨hcs, _⟩ | ⟨a, len, cap, m2, n, D, Pl, hcs, _, hl, hm, hmm, _, hx⟩
  · simp at hcs
    subst hcs
    exact ⟨none, 0, 0, [], r, rfl, Lib.hid fun _ => ⟨Rd.nil, fun k hk => absurd hk (by simp), rfl, by show 0 ≤ _; omega, Nat.le_refl _, hb⟩⟩
  · simp at hcs
    subst hcs
    have hm2 : len ≤ m2 := by rw [hmm]; simp; exact hl
    have each : ∀ i, i < len → ∃ q : Bi, W.cell? (a.add (i * 3)) = some (.int .i64 q.1) ∧ W.cell? (a.add (i * 3 + 1)) = some (.int .i64 q.2.1) ∧ W.cell? (a.add (i * 3 + 2)) = some (.int .i64 q.2.2) ∧ I3 q := by
      intro i hi
      obtain ⟨cs', h1, h2⟩ := hx i (by omega)
      rw [Tryd.cellsBr3F] at h1
      obtain ⟨_, hlen, hcell⟩ := World.cells?_some h1
      obtain ⟨q, rfl, hq⟩ := br_cellsF h2 hlen
      have e0 := hcell 0 (by omega)
      have e1 := hcell 1 (by omega)
      have e2 := hcell 2 (by omega)
      rw [add_add] at e0 e1 e2
      exact ⟨q, by simpa using e0, by simpa using e1, by simpa using e2, hq⟩
    obtain ⟨q, hq⟩ := choose_lt each
    refine ⟨some a, len, cap, (List.range len).map q, r, rfl, Lib.hid fun h40 => ⟨fun h0 => ?_, fun k hk => ?_, by simp, by show len ≤ _; omega, hl, hb⟩⟩
    · rw [List.length_map, List.length_range] at h0
      obtain ⟨b, o, s⟩ := a
      have hs : s = none := by
        rcases s with _ | x
        · rfl
        · have := (hq 0 h0).1
          rw [show (⟨b, o, some x⟩ : Addr).add (0 * 3) = ⟨b, o, some x⟩ by simp [Addr.add]] at this
          unfold World.cell? at this
          split at this
          · simp at this
          · cases this
      subst hs
      refine ⟨b, o, rfl, block_lt_of_cell (by have := (hq 0 h0).1; rw [addr_litF] at this; exact this), fun j hj => ?_⟩
      rw [List.length_map, List.length_range] at hj
      have hat : ((List.range len).map q).getD j (0, 0, 0) = q j := by
        rw [List.getD_eq_getElem?_getD, List.getElem?_map, List.getElem?_range hj]; rfl
      obtain ⟨g0, g1, g2, _⟩ := hq j hj
      unfold iv il ih
      rw [hat]
      rw [addr_litF] at g0 g1 g2
      refine ⟨g0, ?_, ?_⟩
      · rw [Nat.add_assoc]; exact g1
      · rw [Nat.add_assoc]; exact g2
    · rw [List.length_map, List.length_range] at hk
      have hat : ((List.range len).map q).getD k (0, 0, 0) = q k := by
        rw [List.getD_eq_getElem?_getD, List.getElem?_map, List.getElem?_range hk]; rfl
      unfold iv il ih
      rw [hat]
      exact (hq k hk).2.2.2

end Go.Proofs.YtkconfadhcomnaaDoor
