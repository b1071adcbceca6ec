/-
  Plain mathematics and contracts of package diagram, several texts in one: DLaid.
-/
import Derived.Test.YtpaednfinlaioaaGreatDoorRows
import Derived.Test.YtpaednfinlaioaaGreatDoorMe
import Derived.ProofKit
import Derived.LaidMore
import Derived.OpenShut
import Derived.Stop.Joined
import Derived.Lib.LaidTab
namespace Go.Proofs.YtpaednfinlaioaaGreatDoor
open Go.ChangeShapes Go.WideShapes Go.ChangeAt Go.RowKit
theorem gIns : Tryz.prog.globalNamed "koine/diagram.inside" = some 0 := by kernel_rfl
theorem tIns:(Tryz.prog.globals[0]?).map (·.type)=some 192:=by kernel_rfl
end Go.Proofs.YtpaednfinlaioaaGreatDoor
