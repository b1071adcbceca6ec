/-
  DERIVED. GIVEN WITH THE SEED: THE CARDS: each row of YtefepaackdhiiaaDoorRows.lean that lists a variable, with what it lists TIED to the program's text (the seventh form; the later family's looks); each row that meets fmt, with fmt's text TOLD by the authors' own Lean function (tested against real Go, not proved from fmt's source: count such statements apart). THE CARD IS WHAT COUNTS. Prove the row's statement (the work); the ties are given (YtefepaackdhiiaaDoorTie.lean); close each card by the builder's one call (the guide's Derived/Test/ToyasCard.lean, 'card_holds'). Laid BY PROGRAM, IN A SANDBOX (cutbox-door.mjs). By AI agents, Wed Nov 11 2026. No macro, syntax, notation, axiom, sorry.
-/
import Derived.Test.YtefepaackdhiiaaDoorRows
import GoSem.ClaimSeven
namespace Go.Proofs.YtefepaackdhiiaaDoor
namespace Rows

/-- THE TIED CARD OF 'koinelaw02.DiagramMatchesReference'. -/
def diagramMatchesReferenceCard : Claim7 := { stood := { row := diagramMatchesReferenceRow, standIns := [], harness := (true, "cf4908dd6f30f6c5c025530e3188ee98a755edac0a792942fb6611855e08e5ba"), looks := false }, kinds := [], alts := [], laidByText := true, laidKinds := [.data], laidTests := true, laidLooks := .later }
def DiagramMatchesReferenceCardSaid : Prop := Claim7.holds Tryd.pinned (.plain (OpenSpec.ofChange diagramMatchesReferenceSpec)) diagramMatchesReferenceCard

/-- THE TIED CARD OF 'koinelaw02.DiagramPartsMatchReference'. -/
def diagramPartsMatchReferenceCard : Claim7 := { stood := { row := diagramPartsMatchReferenceRow, standIns := [], harness := (true, "cf4908dd6f30f6c5c025530e3188ee98a755edac0a792942fb6611855e08e5ba"), looks := false }, kinds := [], alts := [], laidByText := true, laidKinds := [.data], laidTests := true, laidLooks := .later }
def DiagramPartsMatchReferenceCardSaid : Prop := Claim7.holds Tryd.pinned (.plain (OpenSpec.ofChange diagramPartsMatchReferenceSpec)) diagramPartsMatchReferenceCard

/-- THE TIED CARD OF 'koinelaw02.DiagramCanonical'. -/
def diagramCanonicalCard : Claim7 := { stood := { row := diagramCanonicalRow, standIns := [], harness := (true, "cf4908dd6f30f6c5c025530e3188ee98a755edac0a792942fb6611855e08e5ba"), looks := false }, kinds := [], alts := [], laidByText := true, laidKinds := [.data], laidTests := true, laidLooks := .later }
def DiagramCanonicalCardSaid : Prop := Claim7.holds Tryd.pinned (.plain (OpenSpec.ofChange diagramCanonicalSpec)) diagramCanonicalCard

/-- THE TIED CARD OF 'koinelaw02.DiagramOperations'. -/
def diagramOperationsCard : Claim7 := { stood := { row := diagramOperationsRow, standIns := [], harness := (true, "cf4908dd6f30f6c5c025530e3188ee98a755edac0a792942fb6611855e08e5ba"), looks := false }, kinds := [], alts := [], laidByText := true, laidKinds := [.data], laidTests := true, laidLooks := .later }
def DiagramOperationsCardSaid : Prop := Claim7.holds Tryd.pinned (.plain (OpenSpec.ofChange diagramOperationsSpec)) diagramOperationsCard

/-- THE TIED CARD OF 'koinelaw02.DiagramAlgebra'. -/
def diagramAlgebraCard : Claim7 := { stood := { row := diagramAlgebraRow, standIns := [], harness := (true, "cf4908dd6f30f6c5c025530e3188ee98a755edac0a792942fb6611855e08e5ba"), looks := false }, kinds := [], alts := [], laidByText := true, laidKinds := [.data], laidTests := true, laidLooks := .later }
def DiagramAlgebraCardSaid : Prop := Claim7.holds Tryd.pinned (.plain (OpenSpec.ofChange diagramAlgebraSpec)) diagramAlgebraCard

/-- THE TIED CARD OF 'koinelaw02.DiagramExpansion'. -/
def diagramExpansionCard : Claim7 := { stood := { row := diagramExpansionRow, standIns := [], harness := (true, "cf4908dd6f30f6c5c025530e3188ee98a755edac0a792942fb6611855e08e5ba"), looks := false }, kinds := [], alts := [], laidByText := true, laidKinds := [.data], laidTests := true, laidLooks := .later }
def DiagramExpansionCardSaid : Prop := Claim7.holds Tryd.pinned (.plain (OpenSpec.ofChange diagramExpansionSpec)) diagramExpansionCard

/-- THE TIED CARD OF 'koinelaw02.DiagramInclusion'. -/
def diagramInclusionCard : Claim7 := { stood := { row := diagramInclusionRow, standIns := [], harness := (true, "cf4908dd6f30f6c5c025530e3188ee98a755edac0a792942fb6611855e08e5ba"), looks := false }, kinds := [], alts := [], laidByText := true, laidKinds := [.data], laidTests := true, laidLooks := .later }
def DiagramInclusionCardSaid : Prop := Claim7.holds Tryd.pinned (.plain (OpenSpec.ofChange diagramInclusionSpec)) diagramInclusionCard

/-- THE TIED CARD OF 'koinelaw02.DiagramCounts'. -/
def diagramCountsCard : Claim7 := { stood := { row := diagramCountsRow, standIns := [], harness := (true, "cf4908dd6f30f6c5c025530e3188ee98a755edac0a792942fb6611855e08e5ba"), looks := false }, kinds := [], alts := [], laidByText := true, laidKinds := [.data], laidTests := true, laidLooks := .later }
def DiagramCountsCardSaid : Prop := Claim7.holds Tryd.pinned (.plain (OpenSpec.ofChange diagramCountsSpec)) diagramCountsCard

/-- THE TIED CARD OF 'koinelaw02.DiagramLeast'. -/
def diagramLeastCard : Claim7 := { stood := { row := diagramLeastRow, standIns := [], harness := (true, "cf4908dd6f30f6c5c025530e3188ee98a755edac0a792942fb6611855e08e5ba"), looks := false }, kinds := [], alts := [], laidByText := true, laidKinds := [.data], laidTests := true, laidLooks := .later }
def DiagramLeastCardSaid : Prop := Claim7.holds Tryd.pinned (.plain (OpenSpec.ofChange diagramLeastSpec)) diagramLeastCard

/-- THE TIED CARD OF 'koinelaw02.DiagramSupport'. -/
def diagramSupportCard : Claim7 := { stood := { row := diagramSupportRow, standIns := [], harness := (true, "cf4908dd6f30f6c5c025530e3188ee98a755edac0a792942fb6611855e08e5ba"), looks := false }, kinds := [], alts := [], laidByText := true, laidKinds := [.data], laidTests := true, laidLooks := .later }
def DiagramSupportCardSaid : Prop := Claim7.holds Tryd.pinned (.plain (OpenSpec.ofChange diagramSupportSpec)) diagramSupportCard

/-- THE TIED CARD OF 'koinelaw02.DiagramLiterals'. -/
def diagramLiteralsCard : Claim7 := { stood := { row := diagramLiteralsRow, standIns := [], harness := (true, "cf4908dd6f30f6c5c025530e3188ee98a755edac0a792942fb6611855e08e5ba"), looks := false }, kinds := [], alts := [], laidByText := true, laidKinds := [.data], laidTests := true, laidLooks := .later }
def DiagramLiteralsCardSaid : Prop := Claim7.holds Tryd.pinned (.plain (OpenSpec.ofChange diagramLiteralsSpec)) diagramLiteralsCard

/-- THE TIED CARD OF 'koinelaw02.DiagramRejectsInvalid'. -/
def diagramRejectsInvalidCard : Claim7 := { stood := { row := diagramRejectsInvalidRow, standIns := [], harness := (true, "cf4908dd6f30f6c5c025530e3188ee98a755edac0a792942fb6611855e08e5ba"), looks := false }, kinds := [], alts := [], laidByText := true, laidKinds := [.data], laidTests := true, laidLooks := .later }
def DiagramRejectsInvalidCardSaid : Prop := Claim7.holds Tryd.pinned (.plain (OpenSpec.ofChange diagramRejectsInvalidSpec)) diagramRejectsInvalidCard

/-- THE SECOND FORM's CARD OF 'koinelaw02.DiagramMatchesReference'. -/
def diagramMatchesReferenceUptoCard : Claim7 := { stood := { row := diagramMatchesReferenceUptoRow, standIns := [], harness := (true, "cf4908dd6f30f6c5c025530e3188ee98a755edac0a792942fb6611855e08e5ba"), looks := false }, kinds := [], alts := [], laidByText := true, laidKinds := [.data], laidTests := true, laidLooks := .later }
def DiagramMatchesReferenceUptoCardSaid : Prop := Claim7.holds Tryd.pinned (.plain (OpenSpec.upto diagramMatchesReferenceSpec)) diagramMatchesReferenceUptoCard

/-- THE SECOND FORM's CARD OF 'koinelaw02.DiagramPartsMatchReference'. -/
def diagramPartsMatchReferenceUptoCard : Claim7 := { stood := { row := diagramPartsMatchReferenceUptoRow, standIns := [], harness := (true, "cf4908dd6f30f6c5c025530e3188ee98a755edac0a792942fb6611855e08e5ba"), looks := false }, kinds := [], alts := [], laidByText := true, laidKinds := [.data], laidTests := true, laidLooks := .later }
def DiagramPartsMatchReferenceUptoCardSaid : Prop := Claim7.holds Tryd.pinned (.plain (OpenSpec.upto diagramPartsMatchReferenceSpec)) diagramPartsMatchReferenceUptoCard

/-- THE SECOND FORM's CARD OF 'koinelaw02.DiagramCanonical'. -/
def diagramCanonicalUptoCard : Claim7 := { stood := { row := diagramCanonicalUptoRow, standIns := [], harness := (true, "cf4908dd6f30f6c5c025530e3188ee98a755edac0a792942fb6611855e08e5ba"), looks := false }, kinds := [], alts := [], laidByText := true, laidKinds := [.data], laidTests := true, laidLooks := .later }
def DiagramCanonicalUptoCardSaid : Prop := Claim7.holds Tryd.pinned (.plain (OpenSpec.upto diagramCanonicalSpec)) diagramCanonicalUptoCard

/-- THE SECOND FORM's CARD OF 'koinelaw02.DiagramOperations'. -/
def diagramOperationsUptoCard : Claim7 := { stood := { row := diagramOperationsUptoRow, standIns := [], harness := (true, "cf4908dd6f30f6c5c025530e3188ee98a755edac0a792942fb6611855e08e5ba"), looks := false }, kinds := [], alts := [], laidByText := true, laidKinds := [.data], laidTests := true, laidLooks := .later }
def DiagramOperationsUptoCardSaid : Prop := Claim7.holds Tryd.pinned (.plain (OpenSpec.upto diagramOperationsSpec)) diagramOperationsUptoCard

/-- THE SECOND FORM's CARD OF 'koinelaw02.DiagramAlgebra'. -/
def diagramAlgebraUptoCard : Claim7 := { stood := { row := diagramAlgebraUptoRow, standIns := [], harness := (true, "cf4908dd6f30f6c5c025530e3188ee98a755edac0a792942fb6611855e08e5ba"), looks := false }, kinds := [], alts := [], laidByText := true, laidKinds := [.data], laidTests := true, laidLooks := .later }
def DiagramAlgebraUptoCardSaid : Prop := Claim7.holds Tryd.pinned (.plain (OpenSpec.upto diagramAlgebraSpec)) diagramAlgebraUptoCard

/-- THE SECOND FORM's CARD OF 'koinelaw02.DiagramExpansion'. -/
def diagramExpansionUptoCard : Claim7 := { stood := { row := diagramExpansionUptoRow, standIns := [], harness := (true, "cf4908dd6f30f6c5c025530e3188ee98a755edac0a792942fb6611855e08e5ba"), looks := false }, kinds := [], alts := [], laidByText := true, laidKinds := [.data], laidTests := true, laidLooks := .later }
def DiagramExpansionUptoCardSaid : Prop := Claim7.holds Tryd.pinned (.plain (OpenSpec.upto diagramExpansionSpec)) diagramExpansionUptoCard

/-- THE SECOND FORM's CARD OF 'koinelaw02.DiagramInclusion'. -/
def diagramInclusionUptoCard : Claim7 := { stood := { row := diagramInclusionUptoRow, standIns := [], harness := (true, "cf4908dd6f30f6c5c025530e3188ee98a755edac0a792942fb6611855e08e5ba"), looks := false }, kinds := [], alts := [], laidByText := true, laidKinds := [.data], laidTests := true, laidLooks := .later }
def DiagramInclusionUptoCardSaid : Prop := Claim7.holds Tryd.pinned (.plain (OpenSpec.upto diagramInclusionSpec)) diagramInclusionUptoCard

/-- THE SECOND FORM's CARD OF 'koinelaw02.DiagramCounts'. -/
def diagramCountsUptoCard : Claim7 := { stood := { row := diagramCountsUptoRow, standIns := [], harness := (true, "cf4908dd6f30f6c5c025530e3188ee98a755edac0a792942fb6611855e08e5ba"), looks := false }, kinds := [], alts := [], laidByText := true, laidKinds := [.data], laidTests := true, laidLooks := .later }
def DiagramCountsUptoCardSaid : Prop := Claim7.holds Tryd.pinned (.plain (OpenSpec.upto diagramCountsSpec)) diagramCountsUptoCard

/-- THE SECOND FORM's CARD OF 'koinelaw02.DiagramLeast'. -/
def diagramLeastUptoCard : Claim7 := { stood := { row := diagramLeastUptoRow, standIns := [], harness := (true, "cf4908dd6f30f6c5c025530e3188ee98a755edac0a792942fb6611855e08e5ba"), looks := false }, kinds := [], alts := [], laidByText := true, laidKinds := [.data], laidTests := true, laidLooks := .later }
def DiagramLeastUptoCardSaid : Prop := Claim7.holds Tryd.pinned (.plain (OpenSpec.upto diagramLeastSpec)) diagramLeastUptoCard

/-- THE SECOND FORM's CARD OF 'koinelaw02.DiagramSupport'. -/
def diagramSupportUptoCard : Claim7 := { stood := { row := diagramSupportUptoRow, standIns := [], harness := (true, "cf4908dd6f30f6c5c025530e3188ee98a755edac0a792942fb6611855e08e5ba"), looks := false }, kinds := [], alts := [], laidByText := true, laidKinds := [.data], laidTests := true, laidLooks := .later }
def DiagramSupportUptoCardSaid : Prop := Claim7.holds Tryd.pinned (.plain (OpenSpec.upto diagramSupportSpec)) diagramSupportUptoCard

/-- THE SECOND FORM's CARD OF 'koinelaw02.DiagramLiterals'. -/
def diagramLiteralsUptoCard : Claim7 := { stood := { row := diagramLiteralsUptoRow, standIns := [], harness := (true, "cf4908dd6f30f6c5c025530e3188ee98a755edac0a792942fb6611855e08e5ba"), looks := false }, kinds := [], alts := [], laidByText := true, laidKinds := [.data], laidTests := true, laidLooks := .later }
def DiagramLiteralsUptoCardSaid : Prop := Claim7.holds Tryd.pinned (.plain (OpenSpec.upto diagramLiteralsSpec)) diagramLiteralsUptoCard

/-- THE SECOND FORM's CARD OF 'koinelaw02.DiagramRejectsInvalid'. -/
def diagramRejectsInvalidUptoCard : Claim7 := { stood := { row := diagramRejectsInvalidUptoRow, standIns := [], harness := (true, "cf4908dd6f30f6c5c025530e3188ee98a755edac0a792942fb6611855e08e5ba"), looks := false }, kinds := [], alts := [], laidByText := true, laidKinds := [.data], laidTests := true, laidLooks := .later }
def DiagramRejectsInvalidUptoCardSaid : Prop := Claim7.holds Tryd.pinned (.plain (OpenSpec.upto diagramRejectsInvalidSpec)) diagramRejectsInvalidUptoCard
end Rows
end Go.Proofs.YtefepaackdhiiaaDoor
