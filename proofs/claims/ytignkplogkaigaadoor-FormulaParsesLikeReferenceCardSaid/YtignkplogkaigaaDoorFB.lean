/-
  Plain mathematics and contracts of package diagram, several texts in one: FBy8.
-/
import Derived.Test.YtignkplogkaigaaDoorFj

/-! The bytes of a text, one by one. -/
namespace Go.Proofs.YtignkplogkaigaaDoor
open Go.RowKit Dg St
set_option linter.unusedVariables false
set_option linter.unusedSimpArgs false

theorem by8_snoc {s : ByteArray} {k : Nat} (h : k < s.size) : ∃ B : UInt8, B.toNat = by8 s k ∧ s.data.toList.take (k + 1) = s.data.toList.take k ++ [B] ∧ (s.extract k (k + 1)).data.toList = [B] ∧ s.data.toList[k]? = some B := by
  have hl : k < s.data.toList.length := by rw [sz_tl]; exact h
  refine ⟨s.data.toList[k], ?_, ?_, ?_, List.getElem?_eq_getElem hl⟩
  · unfold by8
    rw [dif_pos h]
    rfl
  · exact (List.take_append_getElem hl).symm
  · rw [tl_ext, Nat.add_sub_cancel_left, List.drop_eq_getElem_cons hl]
    rfl
theorem ba_tl (a b : ByteArray) : (a ++ b).data.toList = a.data.toList ++ b.data.toList := by rw [ByteArray.data_append]; simp

end Go.Proofs.YtignkplogkaigaaDoor
