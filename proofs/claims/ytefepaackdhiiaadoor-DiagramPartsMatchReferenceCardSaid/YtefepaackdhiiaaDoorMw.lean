/-
  Plain mathematics and contracts of package diagram, several texts in one: DRejK.
-/
import Derived.Test.YtefepaackdhiiaaDoorMk
import Derived.Test.YtefepaackdhiiaaDoorMi
import Derived.Test.YtefepaackdhiiaaDoorMu
import Derived.Test.YtefepaackdhiiaaDoorMv
import Derived.Test.YtefepaackdhiiaaDoorMo
import Derived.Deep.AppendLies
import Derived.Deep.DeepCutAuto
namespace Go.Proofs.YtefepaackdhiiaaDoor
open Go.RowKit Dg St
attribute [local go_sem ↓] Go.wp_at_zero Go.wp_at_succ
theorem row_empty {W : World} {base B : Nat} (hb : base ≤ B) (h : W.heap[B]? = some (.cells #[] 72 (0, 0))) : W.ownsRow base 72 3 (.slice (some ⟨B, 0, none⟩) 0 0) 0 [] :=
  ⟨rfl, .inr ⟨B, 0, #[], rfl, hb, h, Nat.le_refl _, Nat.zero_le _, rfl, rfl⟩⟩
structure Cp (w wx : World) (ga gb : Nat) (A : Option Addr) (m c r : Nat) (f : Cfg → Bool) (Ab : Option Addr) (cb : Nat) : Prop where
  bel : Below w.heap.size w wx
  ins : Ins wx 0
  box : B2 wx ga (.slice A m c) (.int .i64 (r : Int))
  dn : Dn wx A m c r f
  bad : B2 wx gb (.slice Ab m cb) (.int .i64 (r : Int))
  mc : m ≤ cb
  row : 0 < m → ∃ g, Ab = some ⟨g, 0, none⟩ ∧ w.heap.size ≤ g ∧ g ≠ gb ∧ g ≠ ga ∧ Blk wx g (m * 3) (brc (brs (cn f).1)) ∧ ∀ b o, A = some ⟨b, o, none⟩ → b ≠ g
  new : w.heap.size ≤ gb
  ne : gb ≠ ga
  off : ∀ b o, A = some ⟨b, o, none⟩ → 0 < m → b ≠ gb
structure Ap (w4 w5 : World) (g cap m : Nat) (M : List Br) : Prop where
  bel : Below w4.heap.size w4 w5
  own : w5.ownsRow w4.heap.size 72 3 (.slice (some ⟨g, 0, none⟩) m cap) m (flat M)
theorem Ap.cap {w4 w5 : World} {g cap m : Nat} {M : List Br} (h : Ap w4 w5 g cap m M) : m ≤ cap := by
  rcases h.own.2 with ⟨e, _⟩ | ⟨g', cap', cur, e, _, _, h3, _⟩
  · cases e
  · injection e with _ _ e3; omega
theorem Ap.ge {w4 w5 : World} {g cap m : Nat} {M : List Br} (h : Ap w4 w5 g cap m M) : w4.heap.size ≤ g := by
  rcases h.own.2 with ⟨e, _⟩ | ⟨g', cap', cur, e, h2, _⟩
  · cases e
  · injection e with e1; injection e1 with e2; injection e2 with e3; omega
theorem Cp.drew {w wz : World} {ga gb cap m c r : Nat} {A Ab : Option Addr} {f : Cfg → Bool} (h : Cp w wz ga gb A m c r f Ab cap) : Cp w wz.drew ga gb A m c r f Ab cap :=
  ⟨h.bel.drew, h.ins.below (Below.refl _ _).drew, h.box, h.dn.below (Below.refl _ _).drew, h.bad, h.mc, h.row, h.new, h.ne, h.off⟩
end Go.Proofs.YtefepaackdhiiaaDoor
