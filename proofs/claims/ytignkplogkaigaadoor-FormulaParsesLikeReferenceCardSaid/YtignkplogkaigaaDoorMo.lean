/-
  Plain mathematics and contracts of package diagram, several texts in one: DLawKit, DSetRow, DArrRow.
-/
import Derived.Test.YtignkplogkaigaaDoorMh
import Derived.ProofKit
import Derived.OpenShut
import Derived.Lib.SmallJoins

/-! A slice of bytes that came in, as a list of numbers. -/
namespace Go.Proofs.YtignkplogkaigaaDoor
open Go.RowKit Dg St

/-- a slice of bytes reads as a list -/
structure R8 (w : World) (A : Option Addr) (n : Nat) (l : List Nat) : Prop where
  len : l.length = n
  lt : ∀ x ∈ l, x < 256
  rd : 0 < n → ∃ b o, A = some ⟨b, o, none⟩ ∧ b < w.heap.size ∧ ∀ j, j < n → w.cell? ⟨b, o + j, none⟩ = some (.int .u8 ((l.getD j 0 : Nat) : Int))
theorem R8.below {w w' : World} {A : Option Addr} {n : Nat} {l : List Nat} (h : R8 w A n l) (hb : Below w.heap.size w w') : R8 w' A n l :=
  ⟨h.len, h.lt, fun h0 => by
    obtain ⟨b, o, e, hlt, hc⟩ := h.rd h0
    exact ⟨b, o, e, Nat.lt_of_lt_of_le hlt hb.size, fun j hj => (hb.cell (p := ⟨b, o + j, none⟩) hlt).trans (hc j hj)⟩⟩
theorem row_r8 {w : World} {a : Option Addr} {len cap : Nat} {zs : List Int}
    (h : (a = none ∧ len = 0 ∧ cap = 0 ∧ zs = []) ∨ ∃ x, a = some x ∧ len ≤ cap ∧ cap ≤ maxLen ∧ zs.length = cap ∧ (∀ i, i < zs.length → w.cell? (x.add i) = some (.int .u8 (zs.getD i 0))) ∧ ∀ n ∈ zs, (Lit.int .u8 n).wf = true) :
    ∃ l : List Nat, Hid (R8 w a len l) ∧ Hid (len ≤ 9223372036854775807) := by
  rcases h with ⟨rfl, rfl, rfl, rfl⟩ | ⟨x, rfl, h1, h2, h3, h4, h5⟩
  · exact ⟨[], ⟨rfl, fun x hx => by simp at hx, fun h => by omega⟩, Lib.hid (by omega)⟩
  · refine ⟨(zs.take len).map Int.toNat, ⟨by simp; omega, fun x hx => ?_, fun h0 => ?_⟩, Lib.hid (by unfold maxLen at h2; omega)⟩
    · obtain ⟨n, hn, rfl⟩ := List.mem_map.1 hx
      have := Go.bounds_u8 (h5 n (List.mem_of_mem_take hn))
      omega
    · obtain ⟨b, o, rfl, hc⟩ := Go.ints_at h4 (by omega)
      refine ⟨b, o, rfl, block_lt_of_cell (hc 0 (by omega)), fun j hj => ?_⟩
      rw [hc j (by omega)]
      have hz := (Go.bounds_u8 (h5 (zs.getD j 0) (by rw [List.getD_eq_getElem?_getD, List.getElem?_eq_getElem (by omega)]; exact List.getElem_mem _))).1
      have e : ((zs.take len).map Int.toNat).getD j 0 = (zs.getD j 0).toNat := by
        rw [List.getD_eq_getElem?_getD, List.getD_eq_getElem?_getD, List.getElem?_map, List.getElem?_take, if_pos (by omega)]
        rw [List.getElem?_eq_getElem (by omega)]; rfl
      rw [e, Int.toNat_of_nonneg hz]

end Go.Proofs.YtignkplogkaigaaDoor

/-! A set's description that came in by value, opened: a slice of bytes and a byte. -/
namespace Go.Proofs.YtignkplogkaigaaDoor
open Go.ChangeShapes Go.WideShapes Go.ChangeAt Go.RowKit

end Go.Proofs.YtignkplogkaigaaDoor

/-! An array of three sets' descriptions that came in by value, opened. -/
namespace Go.Proofs.YtignkplogkaigaaDoor
open Go.ChangeShapes Go.WideShapes Go.ChangeAt Go.RowKit Go.Deep

section
variable {H : Type} {enc : TypeId × Value → H} {P : Program} {w : World} {base : Nat} {spare : Nat → Bool} {held : Bool}
theorem agg2_cells {t : TypeId} {f0 f1 : Field} (hs : P.underlying t = some (.struct #[f0, f1])) (hone : oneCellFields P #[f0, f1] = true) {n : Nat} {c0 c1 : Value} {y : DataW H × List MemPlace} (h : DataW.trod enc P w base spare held n t [c0, c1] = some y) :
    ∃ (y0 y1 : DataW H × List MemPlace) (m : Nat), y = (.agg [y0.1, y1.1], y0.2 ++ y1.2) ∧ DataW.trod enc P w base spare held m f0.type [c0] = some y0 ∧ DataW.trod enc P w base spare held m f1.type [c1] = some y1 := by
  obtain ⟨y0, y1, m, hx, _, h0, h1⟩ := trod_struct2 hs h
  obtain ⟨o0, k0⟩ := hone_of hone 0 f0 rfl
  obtain ⟨o1, k1⟩ := hone_of hone 1 f1 rfl
  exact ⟨y0, y1, m, hx, by simpa [o0, k0] using h0, by simpa [o1, k1] using h1⟩
theorem arr3_cells {t e : TypeId} {fuel : Nat} {c0 c1 c2 c3 c4 c5 : Value} {x : DataW H × List MemPlace} (ht : P.underlying t = some (.array 3 e)) (hce : P.cellsOf e = 2)
    (h : DataW.trod enc P w base spare held fuel t [c0, c1, c2, c3, c4, c5] = some x) :
    ∃ y0 y1 y2 n, x = (.agg [y0.1, y1.1, y2.1], y0.2 ++ (y1.2 ++ y2.2)) ∧ DataW.trod enc P w base spare held n e [c0, c1] = some y0 ∧ DataW.trod enc P w base spare held n e [c2, c3] = some y1 ∧ DataW.trod enc P w base spare held n e [c4, c5] = some y2 := by
  cases fuel with
  | zero => simp [DataW.trod] at h
  | succ n =>
    unfold DataW.trod at h
    rw [ht] at h
    have r3 : List.range 3 = [0, 1, 2] := rfl
    simp [r3, hce] at h
    obtain ⟨_, h⟩ := h
    cases h0 : DataW.trod enc P w base spare held n e [c0, c1] with
    | none => simp [h0] at h
    | some y0 =>
      cases h1 : DataW.trod enc P w base spare held n e [c2, c3] with
      | none => simp [h0, h1] at h
      | some y1 =>
        cases h2 : DataW.trod enc P w base spare held n e [c4, c5] with
        | none => simp [h0, h1, h2] at h
        | some y2 =>
          simp [h0, h1, h2] at h
          exact ⟨y0, y1, y2, n, h.symm, h0, h1, h2⟩
theorem array6 {α : Type} {cs : Array α} (h : cs.size = 6) : ∃ c0 c1 c2 c3 c4 c5, cs = #[c0, c1, c2, c3, c4, c5] := by
  obtain ⟨l⟩ := cs
  match l, h with
  | [a, b, c, d, e, f], _ => exact ⟨a, b, c, d, e, f, rfl⟩
theorem okWide_array {r : Reach} {t e : TypeId} {n : Nat} {v : Value} (ht : P.underlying t = some (.array n e)) (h : Value.okWide P w r base t v) : ∃ cs, v = .agg cs ∧ cs.size = P.cellsOf t := by
  simp only [Value.okWide, ht] at h
  obtain ⟨cs, h1, h2, _⟩ := h
  exact ⟨cs, h1, h2⟩
end

end Go.Proofs.YtignkplogkaigaaDoor
