/-
  A list of names that came in by value, opened: of whatever size.
-/
import Derived.Test.YtignkplogkaigaaDoorFRowM
import Derived.ChangeMaps5
namespace Go.Proofs.YtignkplogkaigaaDoor
open Go.ChangeShapes Go.WideShapes Go.ChangeAt Go.RowKit Go.Deep

set_option maxRecDepth 100000 in
theorem nms_open2 {H : Type} {enc : TypeId × Value → H} {W : World} {base : Nat} {r : Reach} {b0 : Nat} {v : Value} {d : DataW H} {p : List MemPlace}
    (hv : Value.okWide Tryd.prog W r b0 24 v) (h : DataW.Trod enc Tryd.prog W base (fun _ => true) true 24 v d p) :
    ∃ (A : Option Addr) (n nc : Nat) (L : List ByteArray), v = .slice A n nc ∧ n ≤ nc ∧ nc ≤ maxLen ∧ L.length = n ∧ Rstr W W.heap.size A L ∧ (∀ j, (sg L j).size ≤ 9223372036854775807) := by
  obtain ⟨a0, m0, c0, rfl⟩ := okWide_slice Tryd.underlying24 hv
  obtain ⟨fuel, hf⟩ := h
  rcases open_strings Tryd.underlying24 Tryd.underlying9 Tryd.cellsStr1 hf with ⟨hcs, _⟩ | ⟨a, len, cap, ss, hcs, _, hl, hm, hz, hx, hcell, hsz⟩
  · simp [Value.cells] at hcs
    obtain ⟨rfl, rfl, rfl⟩ := hcs
    exact ⟨none, 0, 0, [], rfl, Nat.le_refl _, Nat.zero_le _, rfl, fun h0 => absurd h0 (by simp), fun j => by unfold sg; simp⟩
  · simp [Value.cells] at hcs
    obtain ⟨rfl, rfl, rfl⟩ := hcs
    have hz' : ss.length = c0 := by rw [hz]; simp
    have hlen : (ss.take m0).length = m0 := by rw [List.length_take]; omega
    have hat : ∀ j, j < m0 → sg (ss.take m0) j = ss.getD j ByteArray.empty := fun j hj => by
      unfold sg
      rw [List.getD_eq_getElem?_getD, List.getElem?_take_of_lt hj, List.getD_eq_getElem?_getD]
    refine ⟨some a, m0, c0, ss.take m0, rfl, hl, hm, hlen, fun h0 => ?_, fun j => ?_⟩
    · rw [hlen] at h0
      obtain ⟨b, o, s⟩ := a
      have hs : s = none := by
        rcases s with _ | x
        · rfl
        · have := hcell 0 (by omega)
          rw [show (⟨b, o, some x⟩ : Addr).add 0 = ⟨b, o, some x⟩ by simp [Addr.add]] at this
          unfold World.cell? at this
          split at this
          · simp at this
          · cases this
      subst hs
      refine ⟨b, o, rfl, block_lt_of_cell (by have := hcell 0 (by omega); rw [addr_litF] at this; exact this), fun j hj => ?_⟩
      rw [hlen] at hj
      have := hcell j (by omega)
      rw [addr_litF] at this
      rw [hat j hj]
      exact this
    · by_cases hj : j < m0
      · rw [hat j hj, List.getD_eq_getElem?_getD, List.getElem?_eq_getElem (by omega), Option.getD_some]
        have := hsz _ (List.getElem_mem (show j < ss.length by omega))
        unfold maxLen at this
        omega
      · unfold sg
        rw [List.getD_eq_getElem?_getD, List.getElem?_eq_none (by omega)]
        simp

end Go.Proofs.YtignkplogkaigaaDoor
