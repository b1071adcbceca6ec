/-
  A pattern that came in by value, opened.
-/
import Derived.Test.YtfkljlncnfeklaaGreatDoorPt
import Derived.Deep.Slices
import Derived.Deep.Strs
namespace Go.Proofs.YtfkljlncnfeklaaGreatDoor
open Go.ChangeShapes Go.WideShapes Go.ChangeAt Go.RowKit Go.Deep

theorem Tryz.cellsPn5 : Tryz.prog.cellsOf 42 = 5 := by kernel_rfl
theorem Tryz.cellsIntQ : Tryz.prog.cellsOf 3 = 1 := by kernel_rfl
section
variable {H : Type} {enc : TypeId × Value → H} {P : Program} {w : World} {base : Nat} {spare : Nat → Bool} {held : Bool}
theorem trod_struct5 {t : TypeId} {f0 f1 f2 f3 f4 : Field} {fuel : Nat} {cs : List Value} {x : DataW H × List MemPlace} (ht : P.underlying t = some (.struct #[f0, f1, f2, f3, f4])) (h : DataW.trod enc P w base spare held fuel t cs = some x) :
    ∃ y0 y1 y2 y3 y4 n, cs.length = P.cellsOf t ∧ DataW.trod enc P w base spare held n f0.type ((cs.drop f0.offset).take (P.cellsOf f0.type)) = some y0 ∧
      DataW.trod enc P w base spare held n f1.type ((cs.drop f1.offset).take (P.cellsOf f1.type)) = some y1 ∧ DataW.trod enc P w base spare held n f2.type ((cs.drop f2.offset).take (P.cellsOf f2.type)) = some y2 ∧
      DataW.trod enc P w base spare held n f3.type ((cs.drop f3.offset).take (P.cellsOf f3.type)) = some y3 ∧ DataW.trod enc P w base spare held n f4.type ((cs.drop f4.offset).take (P.cellsOf f4.type)) = some y4 := by
  obtain ⟨xs, n, _, rfl, hl, hlen, hf⟩ := DataW.trod_struct ht h
  match xs, hlen with
  | [y0, y1, y2, y3, y4], _ => exact ⟨y0, y1, y2, y3, y4, n, hl, by simpa using hf 0 f0 rfl, by simpa using hf 1 f1 rfl, by simpa using hf 2 f2 rfl, by simpa using hf 3 f3 rfl, by simpa using hf 4 f4 rfl⟩
end
set_option maxRecDepth 100000 in
theorem pn_cells {H : Type} {enc : TypeId × Value → H} {W : World} {base n : Nat} {cs : List Value} {y : DataW H × List MemPlace}
    (h : DataW.trod enc Tryz.prog W base (fun _ => true) true n 42 cs = some y) (hl : cs.length = 5) :
    ∃ q : Pn, cs = [.int .i64 q.1, .int .i64 q.2.1, .int .i64 q.2.2.1, .int .i64 q.2.2.2.1, .int .i64 q.2.2.2.2] := by
  obtain ⟨y0, y1, y2, y3, y4, k, _, t0, t1, t2, t3, t4⟩ := trod_struct5 Tryz.underlying42 h
  match cs, hl with
  | [v0, v1, v2, v3, v4], _ =>
    simp [Tryz.cellsIntQ] at t0 t1 t2 t3 t4
    obtain ⟨a, e0, _, w0⟩ := DataW.trod_int Tryz.underlying3 t0
    obtain ⟨b, e1, _, w1⟩ := DataW.trod_int Tryz.underlying3 t1
    obtain ⟨c, e2, _, w2⟩ := DataW.trod_int Tryz.underlying3 t2
    obtain ⟨d, e3, _, w3⟩ := DataW.trod_int Tryz.underlying3 t3
    obtain ⟨f, e4, _, w4⟩ := DataW.trod_int Tryz.underlying3 t4
    simp at e0 e1 e2 e3 e4
    subst e0 e1 e2 e3 e4
    exact ⟨(a, b, c, d, f), rfl⟩

theorem addr_litP (b o j : Nat) : (⟨b, o, none⟩ : Addr).add j = ⟨b, o + j, none⟩ := by unfold Addr.add; split <;> simp_all
set_option maxRecDepth 100000 in
theorem pat_open {H : Type} {enc : TypeId × Value → H} {W : World} {base : Nat} {r : Reach} {b0 : Nat} {v : Value} {d : DataW H} {p : List MemPlace}
    (hv : Value.okWide Tryz.prog W r b0 25 v) (h : DataW.Trod enc Tryz.prog W base (fun _ => true) true 25 v d p) :
    ∃ (A : Option Addr) (m c : Nat) (l : List Pn), v = .slice A m c ∧ m ≤ 9223372036854775807 ∧ l.length = m ∧ Rp W W.heap.size A l := by
  obtain ⟨a0, m0, c0, rfl⟩ := okWide_slice Tryz.underlying25 hv
  obtain ⟨fuel, hf⟩ := h
  rcases open_slice Tryz.underlying25 hf with ⟨hcs, _⟩ | ⟨a, len, cap, m2, n, D, Pl, hcs, _, hl, hm, hmm, _, hx⟩
  · simp [Value.cells] at hcs
    obtain ⟨rfl, rfl, rfl⟩ := hcs
    exact ⟨none, 0, 0, [], rfl, Nat.zero_le _, rfl, Rp.nil⟩
  · simp [Value.cells] at hcs
    obtain ⟨rfl, rfl, rfl⟩ := hcs
    have hm2 : m0 ≤ m2 := by rw [hmm]; simp; exact hl
    have each : ∀ i, i < m0 → ∃ q : Pn, W.cell? (a.add (i * 5)) = some (.int .i64 q.1) ∧ W.cell? (a.add (i * 5 + 1)) = some (.int .i64 q.2.1) ∧ W.cell? (a.add (i * 5 + 2)) = some (.int .i64 q.2.2.1) ∧ W.cell? (a.add (i * 5 + 3)) = some (.int .i64 q.2.2.2.1) ∧ W.cell? (a.add (i * 5 + 4)) = some (.int .i64 q.2.2.2.2) := by
      intro i hi
      obtain ⟨cs', h1, h2⟩ := hx i (by omega)
      rw [Tryz.cellsPn5] at h1
      obtain ⟨_, hlen, hcell⟩ := World.cells?_some h1
      obtain ⟨q, rfl⟩ := pn_cells h2 hlen
      have e0 := hcell 0 (by omega)
      have e1 := hcell 1 (by omega)
      have e2 := hcell 2 (by omega)
      have e3 := hcell 3 (by omega)
      have e4 := hcell 4 (by omega)
      rw [add_add] at e0 e1 e2 e3 e4
      exact ⟨q, by simpa using e0, by simpa using e1, by simpa using e2, by simpa using e3, by simpa using e4⟩
    obtain ⟨q, hq⟩ := choose_lt each
    refine ⟨some a, m0, c0, (List.range m0).map q, rfl, by unfold maxLen at hm; omega, by simp, fun h0 => ?_⟩
    rw [List.length_map, List.length_range] at h0
    obtain ⟨b, o, s⟩ := a
    have hs : s = none := by
      rcases s with _ | x
      · rfl
      · have := (hq 0 h0).1
        rw [show (⟨b, o, some x⟩ : Addr).add (0 * 5) = ⟨b, o, some x⟩ by simp [Addr.add]] at this
        unfold World.cell? at this
        split at this
        · simp at this
        · cases this
    subst hs
    refine ⟨b, o, rfl, block_lt_of_cell (by have := (hq 0 h0).1; rw [addr_litP] at this; exact this), fun j hj => ?_⟩
    rw [List.length_map, List.length_range] at hj
    have hat : ((List.range m0).map q).getD j (0, 0, 0, 0, 0) = q j := by
      rw [List.getD_eq_getElem?_getD, List.getElem?_map, List.getElem?_range hj]; rfl
    obtain ⟨g0, g1, g2, g3, g4⟩ := hq j hj
    unfold pk plo phi pa pb
    rw [hat]
    rw [addr_litP] at g0 g1 g2 g3 g4
    refine ⟨g0, ?_, ?_, ?_, ?_⟩
    · rw [Nat.add_assoc]; exact g1
    · rw [Nat.add_assoc]; exact g2
    · rw [Nat.add_assoc]; exact g3
    · rw [Nat.add_assoc]; exact g4

end Go.Proofs.YtfkljlncnfeklaaGreatDoor
