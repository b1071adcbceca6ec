/-
  Plain mathematics and contracts of package diagram, several texts in one: DBad.
-/
import Derived.Test.YtignkplogkaigaaDoorMt
import Derived.Test.YtignkplogkaigaaDoorMg
import Derived.Test.YtignkplogkaigaaDoorMh

/-! What the functions answer to a diagram that is rejected. (Written by dbad.py.) -/
namespace Go.Proofs.YtignkplogkaigaaDoor
open Go.RowKit Dg St
attribute [local go_sem ↓] Go.wp_at_zero Go.wp_at_succ

/-- a diagram that Check rejects -/
def Bad (w : World) (A : Option Addr) (m c : Nat) (l : List Bi) (r : Int) : Prop := DOk w ⟨A, m, c, l, r⟩ ∧ chk l r = 20
theorem Bad.below {w w' : World} {A : Option Addr} {m c : Nat} {l : List Bi} {r : Int} (h : Bad w A m c l r) (hb : Below w.heap.size w w') : Bad w' A m c l r := ⟨h.1.below hb, h.2⟩
theorem rbad {w w' : World} {A : Option Addr} {m c : Nat} {l : List Bi} {r : Int} (h : Hid (Bad w A m c l r)) (hb : Below w.heap.size w w') : Hid (Bad w' A m c l r) := Lib.hid (h.out.below hb)
theorem bad_check {w : World} {A : Option Addr} {m c : Nat} {l : List Bi} {r : Int} (h : Hid (Bad w A m c l r)) :
    Calls Tryd.prog 21 #[.agg #[.slice A m c, .int .i64 r]] w fun e w' => e = .returned (.int .i64 20) ∧ Below w.heap.size w w' := by
  have h1 := h.out.1
  have := check_any l r m c A w (Lib.hid h1.rd) (Lib.hid h1.wi) (Lib.hid h1.len) h1.lm h1.mc (Lib.hid h1.ri)
  rwa [h.out.2] at this
theorem rdok {w w' : World} {d : DA} (h : Hid (DOk w d)) (hb : Below w.heap.size w w') : Hid (DOk w' d) := Lib.hid (h.out.below hb)

end Go.Proofs.YtignkplogkaigaaDoor
