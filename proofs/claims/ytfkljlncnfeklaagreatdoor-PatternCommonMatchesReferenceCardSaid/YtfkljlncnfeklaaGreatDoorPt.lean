/-
  Plain mathematics and contracts of package diagram, several texts in one: XRow.
-/
import Derived.Test.YtfkljlncnfeklaaGreatDoorRows
import Derived.Test.YtfkljlncnfeklaaGreatDoorPs
import Derived.ProofKit
import Derived.LaidMore
import Derived.OpenShut
import Derived.Stop.Joined
import Derived.Lib.LaidTab
import Derived.Lib.SmallJoins

/-! What the rows open: a slice of bytes that came in by value; the library's table as the row's condition lays it. -/
namespace Go.Proofs.YtfkljlncnfeklaaGreatDoor
open Go.ChangeShapes Go.WideShapes Go.ChangeAt Go.RowKit Go.Deep

set_option maxRecDepth 100000 in
theorem bts_open {H : Type} {enc : TypeId × Value → H} {W : World} {base : Nat} {r : Reach} {b0 : Nat} {v : Value} {d : DataW H} {p : List MemPlace}
    (hv : Value.okWide Tryz.prog W r b0 22 v) (h : DataW.Trod enc Tryz.prog W base (fun _ => true) true 22 v d p) :
    ∃ (A : Option Addr) (nn cc : Nat) (l : List Nat), v = .slice A nn cc ∧ Hid (B8 W W.heap.size A nn l) ∧ nn ≤ 9223372036854775807 := by
  obtain ⟨a0, m0, c0, rfl⟩ := okWide_slice Tryz.underlying22 hv
  obtain ⟨fuel, hf⟩ := h
  rcases open_ints Tryz.underlying22 Tryz.underlying5 (by kernel_rfl) hf with ⟨hcs, _⟩ | ⟨x, l, c, zs, hcs, _, h1, h2, h3, _, h4, h5⟩
  · simp [Value.cells] at hcs
    obtain ⟨rfl, rfl, rfl⟩ := hcs
    exact ⟨none, 0, 0, [], rfl, Lib.hid ⟨rfl, fun x hx => by simp at hx, fun h => by omega⟩, by omega⟩
  · simp [Value.cells] at hcs
    obtain ⟨rfl, rfl, rfl⟩ := hcs
    have h3' : zs.length = c0 := by rw [h3]; simp
    refine ⟨_, m0, c0, (zs.take m0).map Int.toNat, rfl, ⟨by simp; omega, fun x hx => ?_, fun h0 => ?_⟩, by unfold maxLen at h2; omega⟩
    · obtain ⟨n, hn, rfl⟩ := List.mem_map.1 hx
      have := Go.bounds_u8 (h5 n (List.mem_of_mem_take hn))
      omega
    · obtain ⟨b, o, rfl, hc⟩ := Go.ints_at h4 (by omega)
      refine ⟨b, o, rfl, block_lt_of_cell (hc 0 (by omega)), fun j hj => ?_⟩
      rw [hc j (by omega)]
      have hz := (Go.bounds_u8 (h5 (zs.getD j 0) (by rw [List.getD_eq_getElem?_getD, List.getElem?_eq_getElem (by omega)]; exact List.getElem_mem _))).1
      have e : ((zs.take m0).map Int.toNat).getD j 0 = (zs.getD j 0).toNat := by
        rw [List.getD_eq_getElem?_getD, List.getD_eq_getElem?_getD, List.getElem?_map, List.getElem?_take, if_pos (by omega)]
        rw [List.getElem?_eq_getElem (by omega)]; rfl
      rw [e, Int.toNat_of_nonneg hz]

theorem gTz : Tryz.prog.globalNamed "math/bits.deBruijn64tab" = some 2 := by kernel_rfl
theorem tTz : (Tryz.prog.globals[2]?).map (·.type) = some 163 := by kernel_rfl
abbrev laidT : List (String × DataW Unit) := [("math/bits.deBruijn64tab", Rows.laid_math_bits_deBruijn64tab)]
theorem tz_of_laid {W : World} (h : laidMetH Tryz.prog laidT W) : Tz W ∧ 2 < W.heap.size := by
  rw [MakeChecks.laidMetH_plain _ _ _ (by kernel_rfl)] at h
  have hT : Lib.TabIs Tryz.prog W "math/bits.deBruijn64tab" .u8 (Lib.deBruijn64tab.map Int.ofNat) :=
    Lib.tabIs_of_head gTz tTz Tryz.underlying163 Tryz.underlying5 (by kernel_rfl) (by kernel_rfl) h
  have hc : ∀ j, j < 64 → W.cell? ⟨2, j, none⟩ = some (.int .u8 ((Lib.deBruijn64tab.getD j 0 : Nat) : Int)) := fun j hj => by
    have := hT.cell gTz j (by rw [List.length_map]; exact hj)
    rw [this, List.getD_eq_getElem?_getD, List.getD_eq_getElem?_getD, List.getElem?_map]
    cases Lib.deBruijn64tab[j]? <;> rfl
  exact ⟨fun j hj => hc j hj, block_lt_of_cell (hc 0 (by decide))⟩

end Go.Proofs.YtfkljlncnfeklaaGreatDoor
