/-
  Plain mathematics and contracts of package diagram, several texts in one: FLawRt.
-/
import Derived.Test.YtpaednfinlaioaaGreatDoorFq
import Derived.Test.YtpaednfinlaioaaGreatDoorFt
import Derived.Test.YtpaednfinlaioaaGreatDoorFn
namespace Go.Proofs.YtpaednfinlaioaaGreatDoor
open Go.Lib (hid)
open Go.RowKit Dg St
set_option linter.unusedVariables false
set_option linter.unusedSimpArgs false
attribute [local go_sem ↓] Go.wp_at_zero Go.wp_at_succ
theorem lmadeF (A:Option Addr) (c nn k:Nat) (l:List Nat) (w W:World) (h8:Hid (B8 w w.heap.size A nn l)) (hnn:nn≤9223372036854775807) (hk:k≤63) (hW:Below w.heap.size w W) :
  Calls Tryz.prog 8 #[.slice A nn c,.int .i64 (1+(k:Int))] W fun e w'=>∃ A' c',e=.returned (.slice A' (made l (1+k)).length c')∧(made l (1+k)).length≤c'∧Rf w' w'.heap.size A' (made l (1+k))∧Below W.heap.size W w':=by
 have:=qmade A c nn (1+k) l W (hid ((h8.out.below hW).mono hW.size)) hnn (by omega) (by omega)
 rw [show ((1+k:Nat):Int)=1+(k:Int) by omega] at this
 refine this.mono ?_
 rintro e w' ⟨A',m,c',rfl,hm,h1,h2,h3⟩
 subst hm
 exact ⟨A',c',rfl,h1,h2,h3⟩
end Go.Proofs.YtpaednfinlaioaaGreatDoor
