/-
  A formula and a list of names that came in by value, opened; what the bound on the input says of a name's size.
-/
import Derived.Test.YtignkplogkaigaaDoorRows
import Derived.Test.YtignkplogkaigaaDoorFh
import Derived.ProofKit
import Derived.OpenShut
import Derived.Lib.SmallJoins
import Derived.Deep.Slices
import Derived.Deep.Strs
import Derived.SliceStrings
namespace Go.Proofs.YtignkplogkaigaaDoor
open Go.ChangeShapes Go.WideShapes Go.ChangeAt Go.RowKit Go.Deep

theorem Tryd.cellsNd4 : Tryd.prog.cellsOf 53 = 4 := by kernel_rfl
theorem Tryd.cellsInt1' : Tryd.prog.cellsOf 3 = 1 := by kernel_rfl
theorem Tryd.cellsStr1 : Tryd.prog.cellsOf 9 = 1 := by kernel_rfl
theorem addr_litF (b o j : Nat) : (⟨b, o, none⟩ : Addr).add j = ⟨b, o + j, none⟩ := by unfold Addr.add; split <;> simp_all
theorem bulk_part {H : Type} {d : DataW H} : ∀ {l : List (DataW H)}, d ∈ l → Rows.uptoBulk d ≤ Rows.uptoBulkAll l
  | [], h => by cases h
  | x :: r, h => by
    rw [Rows.uptoBulkAll]
    rcases List.mem_cons.1 h with e | e
    · rw [e]; omega
    · have := bulk_part e; omega
set_option maxRecDepth 100000 in
theorem nd_cells {H : Type} {enc : TypeId × Value → H} {W : World} {base n : Nat} {cs : List Value} {y : DataW H × List MemPlace}
    (h : DataW.trod enc Tryd.prog W base (fun _ => true) true n 53 cs = some y) (hl : cs.length = 4) :
    ∃ q : Fi, cs = [.int .i64 q.1, .int .i64 q.2.1, .int .i64 q.2.2.1, .int .i64 q.2.2.2] := by
  obtain ⟨y0, y1, y2, y3, k, _, _, t0, t1, t2, t3⟩ := Joins.trod_struct4 Tryd.underlying53 h
  match cs, hl with
  | [v0, v1, v2, v3], _ =>
    simp [Tryd.cellsInt1'] at t0 t1 t2 t3
    obtain ⟨a, e0, _, w0⟩ := DataW.trod_int Tryd.underlying3 t0
    obtain ⟨b, e1, _, w1⟩ := DataW.trod_int Tryd.underlying3 t1
    obtain ⟨c, e2, _, w2⟩ := DataW.trod_int Tryd.underlying3 t2
    obtain ⟨d, e3, _, w3⟩ := DataW.trod_int Tryd.underlying3 t3
    simp at e0 e1 e2 e3
    subst e0 e1 e2 e3
    exact ⟨(a, b, c, d), rfl⟩

set_option maxRecDepth 100000 in
theorem frm_open {H : Type} {enc : TypeId × Value → H} {W : World} {base : Nat} {r : Reach} {b0 : Nat} {v : Value} {d : DataW H} {p : List MemPlace}
    (hv : Value.okWide Tryd.prog W r b0 23 v) (h : DataW.Trod enc Tryd.prog W base (fun _ => true) true 23 v d p) :
    ∃ (A : Option Addr) (m c : Nat) (l : List Fi), v = .slice A m c ∧ m ≤ c ∧ c ≤ maxLen ∧ l.length = m ∧ Rf W W.heap.size A l := by
  obtain ⟨a0, m0, c0, rfl⟩ := okWide_slice Tryd.underlying23 hv
  obtain ⟨fuel, hf⟩ := h
  rcases open_slice Tryd.underlying23 hf with ⟨hcs, _⟩ | ⟨a, len, cap, m2, n, D, Pl, hcs, _, hl, hm, hmm, _, hx⟩
  · simp [Value.cells] at hcs
    obtain ⟨rfl, rfl, rfl⟩ := hcs
    exact ⟨none, 0, 0, [], rfl, Nat.le_refl _, Nat.zero_le _, rfl, Rf.nil⟩
  · simp [Value.cells] at hcs
    obtain ⟨rfl, rfl, rfl⟩ := hcs
    have hm2 : m0 ≤ m2 := by rw [hmm]; simp; exact hl
    have each : ∀ i, i < m0 → ∃ q : Fi, W.cell? (a.add (i * 4)) = some (.int .i64 q.1) ∧ W.cell? (a.add (i * 4 + 1)) = some (.int .i64 q.2.1) ∧ W.cell? (a.add (i * 4 + 2)) = some (.int .i64 q.2.2.1) ∧ W.cell? (a.add (i * 4 + 3)) = some (.int .i64 q.2.2.2) := by
      intro i hi
      obtain ⟨cs', h1, h2⟩ := hx i (by omega)
      rw [Tryd.cellsNd4] at h1
      obtain ⟨_, hlen, hcell⟩ := World.cells?_some h1
      obtain ⟨q, rfl⟩ := nd_cells h2 hlen
      have e0 := hcell 0 (by omega)
      have e1 := hcell 1 (by omega)
      have e2 := hcell 2 (by omega)
      have e3 := hcell 3 (by omega)
      rw [add_add] at e0 e1 e2 e3
      exact ⟨q, by simpa using e0, by simpa using e1, by simpa using e2, by simpa using e3⟩
    obtain ⟨q, hq⟩ := choose_lt each
    refine ⟨some a, m0, c0, (List.range m0).map q, rfl, hl, hm, by simp, fun h0 => ?_⟩
    rw [List.length_map, List.length_range] at h0
    obtain ⟨b, o, s⟩ := a
    have hs : s = none := by
      rcases s with _ | x
      · rfl
      · have := (hq 0 h0).1
        rw [show (⟨b, o, some x⟩ : Addr).add (0 * 4) = ⟨b, o, some x⟩ by simp [Addr.add]] at this
        unfold World.cell? at this
        split at this
        · simp at this
        · cases this
    subst hs
    refine ⟨b, o, rfl, block_lt_of_cell (by have := (hq 0 h0).1; rw [addr_litF] at this; exact this), fun j hj => ?_⟩
    rw [List.length_map, List.length_range] at hj
    have hat : ((List.range m0).map q).getD j (0, 0, 0, 0) = q j := by
      rw [List.getD_eq_getElem?_getD, List.getElem?_map, List.getElem?_range hj]; rfl
    obtain ⟨g0, g1, g2, g3⟩ := hq j hj
    unfold fo fv fa fb
    rw [hat]
    rw [addr_litF] at g0 g1 g2 g3
    refine ⟨g0, ?_, ?_, ?_⟩
    · rw [Nat.add_assoc]; exact g1
    · rw [Nat.add_assoc]; exact g2
    · rw [Nat.add_assoc]; exact g3

set_option maxRecDepth 100000 in
theorem nms_open {H : Type} {enc : TypeId × Value → H} {W : World} {base : Nat} {r : Reach} {b0 : Nat} {v : Value} {d : DataW H} {p : List MemPlace}
    (hv : Value.okWide Tryd.prog W r b0 24 v) (h : DataW.Trod enc Tryd.prog W base (fun _ => true) true 24 v d p) :
    ∃ (A : Option Addr) (n nc : Nat) (L : List ByteArray), v = .slice A n nc ∧ n ≤ nc ∧ nc ≤ maxLen ∧ L.length = n ∧ Rstr W W.heap.size A L ∧ (Rows.uptoBulk d ≤ 1048576 → ∀ j, (sg L j).size ≤ 1048576) := by
  obtain ⟨a0, m0, c0, rfl⟩ := okWide_slice Tryd.underlying24 hv
  obtain ⟨fuel, hf⟩ := h
  rcases open_strings Tryd.underlying24 Tryd.underlying9 Tryd.cellsStr1 hf with ⟨hcs, _⟩ | ⟨a, len, cap, ss, hcs, _, hl, hm, hz, hx, hcell, hsz⟩
  · simp [Value.cells] at hcs
    obtain ⟨rfl, rfl, rfl⟩ := hcs
    exact ⟨none, 0, 0, [], rfl, Nat.le_refl _, Nat.zero_le _, rfl, fun h0 => absurd h0 (by simp), fun _ j => by unfold sg; simp⟩
  · simp [Value.cells] at hcs
    obtain ⟨rfl, rfl, rfl⟩ := hcs
    have hz' : ss.length = c0 := by rw [hz]; simp
    have hlen : (ss.take m0).length = m0 := by rw [List.length_take]; omega
    have hat : ∀ j, j < m0 → sg (ss.take m0) j = ss.getD j ByteArray.empty := fun j hj => by
      unfold sg
      rw [List.getD_eq_getElem?_getD, List.getElem?_take_of_lt hj, List.getD_eq_getElem?_getD]
    refine ⟨some a, m0, c0, ss.take m0, rfl, hl, hm, hlen, fun h0 => ?_, fun hb j => ?_⟩
    · rw [hlen] at h0
      obtain ⟨b, o, s⟩ := a
      have hs : s = none := by
        rcases s with _ | x
        · rfl
        · have := hcell 0 (by omega)
          rw [show (⟨b, o, some x⟩ : Addr).add 0 = ⟨b, o, some x⟩ by simp [Addr.add]] at this
          unfold World.cell? at this
          split at this
          · simp at this
          · cases this
      subst hs
      refine ⟨b, o, rfl, block_lt_of_cell (by have := hcell 0 (by omega); rw [addr_litF] at this; exact this), fun j hj => ?_⟩
      rw [hlen] at hj
      have := hcell j (by omega)
      rw [addr_litF] at this
      rw [hat j hj]
      exact this
    · by_cases hj : j < m0
      · have e : d = .slice (strs (ss.take m0)) (strs (ss.drop m0)) := congrArg Prod.fst hx
        rw [e] at hb
        have h1 : Rows.uptoBulkAll (strs (H := H) (ss.take m0)) + Rows.uptoBulkAll (strs (H := H) (ss.drop m0)) + 1 ≤ 1048576 := by
          rw [Rows.uptoBulk] at hb
          exact hb
        have hmem : (DataW.lit (.string (sg (ss.take m0) j).data.toList) : DataW H) ∈ strs (ss.take m0) := by
          unfold strs
          refine List.mem_map.2 ⟨sg (ss.take m0) j, ?_, rfl⟩
          unfold sg
          rw [List.getD_eq_getElem?_getD, List.getElem?_eq_getElem (by omega)]
          exact List.getElem_mem _
        have h2 := bulk_part hmem
        rw [Rows.uptoBulk] at h2
        have h3 : (sg (ss.take m0) j).data.toList.length = (sg (ss.take m0) j).size := Array.length_toList
        omega
      · unfold sg
        rw [List.getD_eq_getElem?_getD, List.getElem?_eq_none (by omega)]
        simp

end Go.Proofs.YtignkplogkaigaaDoor
