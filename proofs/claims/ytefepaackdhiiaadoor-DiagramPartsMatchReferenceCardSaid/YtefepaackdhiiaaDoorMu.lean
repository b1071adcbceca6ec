/-
  Plain mathematics and contracts of package diagram, several texts in one: DCh6.
-/
import Derived.Test.YtefepaackdhiiaaDoorMt
import Derived.Test.YtefepaackdhiiaaDoorMq
namespace Go.Proofs.YtefepaackdhiiaaDoor
open Go.RowKit Dg St
end Go.Proofs.YtefepaackdhiiaaDoor
