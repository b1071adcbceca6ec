/-
  Plain mathematics and contracts of package diagram, several texts in one: FArd, FShw, FSh2.
-/
import Derived.Test.YtpaednfinlaioaaGreatDoorFh
import Derived.Test.YtpaednfinlaioaaGreatDoorFg
import Derived.Deep.RegionHeld3
import Derived.BigQuiet
import Derived.Deep.QuietTactic
namespace Go.Proofs.YtpaednfinlaioaaGreatDoor
open Go.RowKit Dg St
set_option linter.unusedVariables false
set_option linter.unusedSimpArgs false
attribute [local go_sem ↓] Go.wp_at_zero Go.wp_at_succ
def par (s:ByteArray):ByteArray:=⟨#[40]⟩++s++⟨#[41]⟩
set_option linter.unusedVariables false
set_option linter.unusedSimpArgs false
attribute [local go_sem ↓] Go.wp_at_zero Go.wp_at_succ
set_option linter.unusedVariables false
set_option linter.unusedSimpArgs false
attribute [local go_sem ↓] Go.wp_at_zero Go.wp_at_succ
end Go.Proofs.YtpaednfinlaioaaGreatDoor
