/-
  Plain mathematics and contracts of package diagram, several texts in one: DLaid.
-/
import Derived.Test.YtefepaackdhiiaaDoorRows
import Derived.Test.YtefepaackdhiiaaDoorMe
import Derived.ProofKit
import Derived.LaidMore
import Derived.OpenShut
import Derived.Stop.Joined
import Derived.Lib.LaidTab
namespace Go.Proofs.YtefepaackdhiiaaDoor
open Go.ChangeShapes Go.WideShapes Go.ChangeAt Go.RowKit
theorem gIns : Tryd.prog.globalNamed "koine/diagram.inside" = some 0 := by kernel_rfl
theorem tIns : (Tryd.prog.globals[0]?).map (·.type) = some 161 := by kernel_rfl
abbrev laidL : List (String × DataW Unit) := [("koine/diagram.inside", Rows.laid_koine_diagram_inside)]
theorem ins_of_laid {W : World} (h : laidMetH Tryd.prog laidL W) : Ins W 0 := by
  rw [MakeChecks.laidMetH_plain _ _ _ (by kernel_rfl)] at h
  have hT : Lib.TabIs Tryd.prog W "koine/diagram.inside" .u8 [170, 204, 240] :=
    Lib.tabIs_of_head gIns tIns Tryd.underlying161 Tryd.underlying5 (by kernel_rfl) (by kernel_rfl) h
  exact ⟨hT.cell gIns 0 (by decide), hT.cell gIns 1 (by decide), hT.cell gIns 2 (by decide)⟩
theorem door_met (os : Os) (args : Array Value) : laidMetH Tryd.prog laidL ((World.doorLaid Tryd.prog 400 os).forCall (fun _ _ => 0) ⟨#[], args, []⟩).memory :=
  laidMetH_of_parts3 (fuel := 8) (laidMet_of_run' 8 (by kernel_rfl) (by kernel_rfl)) (by kernel_rfl) (by kernel_rfl)
end Go.Proofs.YtefepaackdhiiaaDoor
