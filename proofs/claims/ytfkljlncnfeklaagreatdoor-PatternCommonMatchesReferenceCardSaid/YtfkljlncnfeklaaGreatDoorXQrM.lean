/-
  The reference's Shortest; the search at patterns that are expressions in postorder.
-/
import Derived.Test.YtfkljlncnfeklaaGreatDoorXQpM
import Derived.Test.YtfkljlncnfeklaaGreatDoorPu
namespace Go.Proofs.YtfkljlncnfeklaaGreatDoor
open Go.RowKit Go.Shelf
set_option linter.unusedVariables false
set_option linter.unusedSimpArgs false
attribute [local go_sem ↓] Go.wp_at_zero Go.wp_at_succ

set_option maxRecDepth 100000 in
set_option maxHeartbeats 2000000 in
theorem rshort_any (A : Option Addr) (m c : Nat) (l : List Pn) (w : World) (h : okP l) (hl : Hid (l.length = m)) (hm : m ≤ 12) (hr : Hid (Rp w w.heap.size A l)) (hz : chP l = 0) :
    Calls Tryz.prog 20 #[.slice A m c] w fun e w' => ∃ (s : List UInt8) (z : Int), e = .returned (.tuple #[.string ⟨s.toArray⟩, .int .i64 z]) ∧ Hid (CmQ l l s z) ∧ Hid (Below w.heap.size w w') := by
  have HC := Lib.hid (rcommon_any A A m c m c l l w h h hl hl hm hm hr hr hz hz)
  clear hr hl h hz
  go_enter Tryz.func20, Tryz.ntmps20
  go_wp2_with fail
  with_reducible refine HC.out.mono ?_
  rintro e w1 ⟨s, z, rfl, hs, b1⟩
  go_wp2
  go_ret2
  exact ⟨s, z, rfl, hs, b1⟩
/-- the two searches answer alike -/
theorem cm_like {a b : Rx} {s t : List UInt8} {z y : Int} (h : CmR a b s z) (k : CmQ (a.po []) (b.po []) t y) : t = s ∧ y = z := by
  unfold CmQ at k
  rw [rxPo, rxPo] at k
  rcases h with ⟨rfl, h, _⟩ | ⟨rfl, rfl, h⟩ <;> rcases k with ⟨rfl, k⟩ | ⟨rfl, rfl, k⟩
  · exact ⟨firstB_uniq k h, rfl⟩
  · exact absurd ⟨h.2.1, h.2.2.1⟩ (k _ h.1)
  · exact absurd ⟨k.2.1, k.2.2.1⟩ (h _ k.1)
  · exact ⟨rfl, rfl⟩
theorem kq_common (W : World) (a b : Rx) (ha : a.by8) (hb : b.by8) (hla : a.nn ≤ 12) (hlb : b.nn ≤ 12) (A A' : Option Addr) (c c' : Nat) (hr : Hid (Rp W W.heap.size A (a.po []))) (hr' : Hid (Rp W W.heap.size A' (b.po []))) :
    Calls Tryz.prog 22 #[.slice A (a.po []).length c, .slice A' (b.po []).length c'] W fun e w' => ∃ (s : List UInt8) (z : Int), e = .returned (.tuple #[.string ⟨s.toArray⟩, .int .i64 z]) ∧ Hid (CmQ (a.po []) (b.po []) s z) ∧ Hid (Below W.heap.size W w') := by
  have e1 := sy_ok ha (by omega)
  have e2 := sy_ok hb (by omega)
  refine rcommon_any A A' _ c _ c' (a.po []) (b.po []) W (po_ok ha (by omega)) (po_ok hb (by omega)) (lid' rfl) (lid' rfl) ?_ ?_ hr hr' e1 e2
  · have := po_len a []; rw [List.length_nil] at this; omega
  · have := po_len b []; rw [List.length_nil] at this; omega
theorem kq_short (W : World) (a : Rx) (ha : a.by8) (hla : a.nn ≤ 12) (A : Option Addr) (c : Nat) (hr : Hid (Rp W W.heap.size A (a.po []))) :
    Calls Tryz.prog 20 #[.slice A (a.po []).length c] W fun e w' => ∃ (s : List UInt8) (z : Int), e = .returned (.tuple #[.string ⟨s.toArray⟩, .int .i64 z]) ∧ Hid (CmQ (a.po []) (a.po []) s z) ∧ Hid (Below W.heap.size W w') := by
  have e1 := sy_ok ha (by omega)
  refine rshort_any A _ c (a.po []) W (po_ok ha (by omega)) (lid' rfl) ?_ hr e1
  · have := po_len a []; rw [List.length_nil] at this; omega

end Go.Proofs.YtfkljlncnfeklaaGreatDoor
