/-
  DERIVED. GIVEN WITH THE SEED: THE CARDS: each row of YtpaednfinlaioaaGreatDoorRows.lean that lists a variable, with what it lists TIED to the program's text (the seventh form; the later family's looks); each row that meets fmt, with fmt's text TOLD by the authors' own Lean function (tested against real Go, not proved from fmt's source: count such statements apart). THE CARD IS WHAT COUNTS. Prove the row's statement (the work); the ties are given (YtpaednfinlaioaaGreatDoorTie.lean); close each card by the builder's one call (the guide's Derived/Test/ToyasCard.lean, 'card_holds'). Laid BY PROGRAM, IN A SANDBOX (cutbox-door.mjs). By AI agents, Wed Nov 11 2026. No macro, syntax, notation, axiom, sorry.
-/
import Derived.Test.YtpaednfinlaioaaGreatDoorRows
import GoSem.ClaimSeven
namespace Go.Proofs.YtpaednfinlaioaaGreatDoor
namespace Rows

/-- THE TIED CARD OF 'koinelaw03.FormulaSetsMatchReference'. -/
def formulaSetsMatchReferenceCard : Claim7 := { stood := { row := formulaSetsMatchReferenceRow, standIns := [], harness := (true, "aa4f1eed6a7c26632da57de0532e116381e546f4880a9e7b97c5f97d9e550223"), looks := true }, kinds := [], alts := [], laidByText := true, laidKinds := [.data, .data, .pinned], laidTests := true, laidLooks := .later }
def FormulaSetsMatchReferenceCardSaid : Prop := Claim7.holds Tryz.pinned (.plain (OpenSpec.ofChange formulaSetsMatchReferenceSpec)) formulaSetsMatchReferenceCard

/-- THE TIED CARD OF 'koinelaw03.FormulaHoldsInItsSet'. -/
def formulaHoldsInItsSetCard : Claim7 := { stood := { row := formulaHoldsInItsSetRow, standIns := [], harness := (true, "aa4f1eed6a7c26632da57de0532e116381e546f4880a9e7b97c5f97d9e550223"), looks := true }, kinds := [], alts := [], laidByText := true, laidKinds := [.data, .data, .pinned], laidTests := true, laidLooks := .later }
def FormulaHoldsInItsSetCardSaid : Prop := Claim7.holds Tryz.pinned (.plain (OpenSpec.ofChange formulaHoldsInItsSetSpec)) formulaHoldsInItsSetCard

/-- THE TIED CARD OF 'koinelaw03.FormulaCanonical'. -/
def formulaCanonicalCard : Claim7 := { stood := { row := formulaCanonicalRow, standIns := [], harness := (true, "aa4f1eed6a7c26632da57de0532e116381e546f4880a9e7b97c5f97d9e550223"), looks := true }, kinds := [], alts := [], laidByText := true, laidKinds := [.data, .data, .pinned], laidTests := true, laidLooks := .later }
def FormulaCanonicalCardSaid : Prop := Claim7.holds Tryz.pinned (.plain (OpenSpec.ofChange formulaCanonicalSpec)) formulaCanonicalCard

/-- THE TIED CARD OF 'koinelaw03.FormulaOperators'. -/
def formulaOperatorsCard : Claim7 := { stood := { row := formulaOperatorsRow, standIns := [], harness := (true, "aa4f1eed6a7c26632da57de0532e116381e546f4880a9e7b97c5f97d9e550223"), looks := true }, kinds := [], alts := [], laidByText := true, laidKinds := [.data, .data, .pinned], laidTests := true, laidLooks := .later }
def FormulaOperatorsCardSaid : Prop := Claim7.holds Tryz.pinned (.plain (OpenSpec.ofChange formulaOperatorsSpec)) formulaOperatorsCard

/-- THE SECOND FORM's CARD OF 'koinelaw03.FormulaSetsMatchReference'. -/
def formulaSetsMatchReferenceUptoCard : Claim7 := { stood := { row := formulaSetsMatchReferenceUptoRow, standIns := [], harness := (true, "aa4f1eed6a7c26632da57de0532e116381e546f4880a9e7b97c5f97d9e550223"), looks := true }, kinds := [], alts := [], laidByText := true, laidKinds := [.data, .data, .pinned], laidTests := true, laidLooks := .later }
def FormulaSetsMatchReferenceUptoCardSaid : Prop := Claim7.holds Tryz.pinned (.plain (OpenSpec.upto formulaSetsMatchReferenceSpec)) formulaSetsMatchReferenceUptoCard

/-- THE SECOND FORM's CARD OF 'koinelaw03.FormulaHoldsInItsSet'. -/
def formulaHoldsInItsSetUptoCard : Claim7 := { stood := { row := formulaHoldsInItsSetUptoRow, standIns := [], harness := (true, "aa4f1eed6a7c26632da57de0532e116381e546f4880a9e7b97c5f97d9e550223"), looks := true }, kinds := [], alts := [], laidByText := true, laidKinds := [.data, .data, .pinned], laidTests := true, laidLooks := .later }
def FormulaHoldsInItsSetUptoCardSaid : Prop := Claim7.holds Tryz.pinned (.plain (OpenSpec.upto formulaHoldsInItsSetSpec)) formulaHoldsInItsSetUptoCard

/-- THE SECOND FORM's CARD OF 'koinelaw03.FormulaCanonical'. -/
def formulaCanonicalUptoCard : Claim7 := { stood := { row := formulaCanonicalUptoRow, standIns := [], harness := (true, "aa4f1eed6a7c26632da57de0532e116381e546f4880a9e7b97c5f97d9e550223"), looks := true }, kinds := [], alts := [], laidByText := true, laidKinds := [.data, .data, .pinned], laidTests := true, laidLooks := .later }
def FormulaCanonicalUptoCardSaid : Prop := Claim7.holds Tryz.pinned (.plain (OpenSpec.upto formulaCanonicalSpec)) formulaCanonicalUptoCard

/-- THE SECOND FORM's CARD OF 'koinelaw03.FormulaOperators'. -/
def formulaOperatorsUptoCard : Claim7 := { stood := { row := formulaOperatorsUptoRow, standIns := [], harness := (true, "aa4f1eed6a7c26632da57de0532e116381e546f4880a9e7b97c5f97d9e550223"), looks := true }, kinds := [], alts := [], laidByText := true, laidKinds := [.data, .data, .pinned], laidTests := true, laidLooks := .later }
def FormulaOperatorsUptoCardSaid : Prop := Claim7.holds Tryz.pinned (.plain (OpenSpec.upto formulaOperatorsSpec)) formulaOperatorsUptoCard
end Rows
end Go.Proofs.YtpaednfinlaioaaGreatDoor
