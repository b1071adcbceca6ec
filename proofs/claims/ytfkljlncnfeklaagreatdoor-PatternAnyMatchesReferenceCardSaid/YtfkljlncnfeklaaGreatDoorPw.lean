/-
  Plain mathematics and contracts of package diagram, several texts in one: XRow2.
-/
import Derived.Test.YtfkljlncnfeklaaGreatDoorPt
import Derived.Lib.LaidU8T

/-! The three tables of the library as the row of Literals lays them. -/
namespace Go.Proofs.YtfkljlncnfeklaaGreatDoor
open Go.ChangeShapes Go.WideShapes Go.ChangeAt Go.RowKit Go.Deep

abbrev laidU : List (String × DataW Unit) := [("math/bits.deBruijn64tab", Rows.laid_math_bits_deBruijn64tab), ("unicode/utf8.acceptRanges", Rows.laid_unicode_utf8_acceptRanges), ("unicode/utf8.first", Rows.laid_unicode_utf8_first)]
theorem tu_of_laid {W : World} (h : laidMetH Tryz.prog laidU W) : (Tz W ∧ 2 < W.heap.size) ∧ (Tu W ∧ 0 < W.heap.size ∧ 1 < W.heap.size) := by
  rw [MakeChecks.laidMetH_plain _ _ _ (by kernel_rfl)] at h
  have hT : Lib.TabIs Tryz.prog W "math/bits.deBruijn64tab" .u8 (Lib.deBruijn64tab.map Int.ofNat) :=
    Lib.tabIs_of_head gTz tTz Tryz.underlying163 Tryz.underlying5 (by kernel_rfl) (by kernel_rfl) h
  have hc : ∀ j, j < 64 → W.cell? ⟨2, j, none⟩ = some (.int .u8 ((Lib.deBruijn64tab.getD j 0 : Nat) : Int)) := fun j hj => by
    have := hT.cell gTz j (by rw [List.length_map]; exact hj)
    rw [this, List.getD_eq_getElem?_getD, List.getD_eq_getElem?_getD, List.getElem?_map]
    cases Lib.deBruijn64tab[j]? <;> rfl
  have e3 : (Rows.laid_unicode_utf8_first : DataW Unit) = Lib.firstData := by kernel_rfl
  have e4 : (Rows.laid_unicode_utf8_acceptRanges : DataW Unit) = Lib.acceptData := by kernel_rfl
  have h3 := Lib.laidMet.reads (n := "unicode/utf8.first") (d := Rows.laid_unicode_utf8_first) h (.tail _ (.tail _ (.head _)))
  have h4 := Lib.laidMet.reads (n := "unicode/utf8.acceptRanges") (d := Rows.laid_unicode_utf8_acceptRanges) h (.tail _ (.head _))
  rw [e3] at h3
  rw [e4] at h4
  have hU : Tu W := Go.Proofs.utf8Tabs_of_readsT { lays197 with } ⟨by kernel_rfl, by kernel_rfl, by kernel_rfl, by kernel_rfl, by kernel_rfl, by kernel_rfl, by kernel_rfl⟩ h3 h4
  refine ⟨⟨fun j hj => hc j hj, block_lt_of_cell (hc 0 (by decide))⟩, hU, ?_, ?_⟩
  · exact block_lt_of_cell (hU.1 0 (by decide))
  · exact block_lt_of_cell (hU.2 0 (by decide)).1

end Go.Proofs.YtfkljlncnfeklaaGreatDoor
