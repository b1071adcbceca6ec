/-
  A formula and a list of names that came in by value, opened; what the bound on the input says of a name's size.
-/
import Derived.Test.YtpaednfinlaioaaGreatDoorRows
import Derived.Test.YtpaednfinlaioaaGreatDoorFh
import Derived.ProofKit
import Derived.OpenShut
import Derived.Lib.SmallJoins
import Derived.Deep.Slices
import Derived.Deep.Strs
import Derived.SliceStrings
namespace Go.Proofs.YtpaednfinlaioaaGreatDoor
open Go.ChangeShapes Go.WideShapes Go.ChangeAt Go.RowKit Go.Deep
end Go.Proofs.YtpaednfinlaioaaGreatDoor
