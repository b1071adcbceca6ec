/-
  DERIVED. GIVEN WITH THE SEED: THE CARDS: each row of YtfkljlncnfeklaaGreatDoorRows.lean that lists a variable, with what it lists TIED to the program's text (the seventh form; the later family's looks); each row that meets fmt, with fmt's text TOLD by the authors' own Lean function (tested against real Go, not proved from fmt's source: count such statements apart). THE CARD IS WHAT COUNTS. Prove the row's statement (the work); the ties are given (YtfkljlncnfeklaaGreatDoorTie.lean); close each card by the builder's one call (the guide's Derived/Test/ToyasCard.lean, 'card_holds'). Laid BY PROGRAM, IN A SANDBOX (cutbox-door.mjs). By AI agents, Wed Nov 11 2026. No macro, syntax, notation, axiom, sorry.
-/
import Derived.Test.YtfkljlncnfeklaaGreatDoorRows
import GoSem.ClaimSeven
namespace Go.Proofs.YtfkljlncnfeklaaGreatDoor
namespace Rows

/-- THE TIED CARD OF 'koinelaw04.PatternMatchesReference'. -/
def patternMatchesReferenceCard : Claim7 := { stood := { row := patternMatchesReferenceRow, standIns := [], harness := (true, "26db747c765072c2bb089c96f033d84184d0b4162acaa2187dc7b40eb3b69af3"), looks := false }, kinds := [], alts := [], laidByText := true, laidKinds := [.data], laidTests := true, laidLooks := .later }
def PatternMatchesReferenceCardSaid : Prop := Claim7.holds Tryz.pinned (.plain (OpenSpec.ofChange patternMatchesReferenceSpec)) patternMatchesReferenceCard

/-- THE TIED CARD OF 'koinelaw04.PatternAnyMatchesReference'. -/
def patternAnyMatchesReferenceCard : Claim7 := { stood := { row := patternAnyMatchesReferenceRow, standIns := [], harness := (true, "26db747c765072c2bb089c96f033d84184d0b4162acaa2187dc7b40eb3b69af3"), looks := false }, kinds := [], alts := [], laidByText := true, laidKinds := [.data, .data, .pinned], laidTests := true, laidLooks := .later }
def PatternAnyMatchesReferenceCardSaid : Prop := Claim7.holds Tryz.pinned (.plain (OpenSpec.ofChange patternAnyMatchesReferenceSpec)) patternAnyMatchesReferenceCard

/-- THE TIED CARD OF 'koinelaw04.PatternCommonMatchesReference'. -/
def patternCommonMatchesReferenceCard : Claim7 := { stood := { row := patternCommonMatchesReferenceRow, standIns := [], harness := (true, "26db747c765072c2bb089c96f033d84184d0b4162acaa2187dc7b40eb3b69af3"), looks := false }, kinds := [], alts := [], laidByText := true, laidKinds := [.data], laidTests := true, laidLooks := .later }
def PatternCommonMatchesReferenceCardSaid : Prop := Claim7.holds Tryz.pinned (.plain (OpenSpec.ofChange patternCommonMatchesReferenceSpec)) patternCommonMatchesReferenceCard

/-- THE SECOND FORM's CARD OF 'koinelaw04.PatternMatchesReference'. -/
def patternMatchesReferenceUptoCard : Claim7 := { stood := { row := patternMatchesReferenceUptoRow, standIns := [], harness := (true, "26db747c765072c2bb089c96f033d84184d0b4162acaa2187dc7b40eb3b69af3"), looks := false }, kinds := [], alts := [], laidByText := true, laidKinds := [.data], laidTests := true, laidLooks := .later }
def PatternMatchesReferenceUptoCardSaid : Prop := Claim7.holds Tryz.pinned (.plain (OpenSpec.upto patternMatchesReferenceSpec)) patternMatchesReferenceUptoCard

/-- THE SECOND FORM's CARD OF 'koinelaw04.PatternAnyMatchesReference'. -/
def patternAnyMatchesReferenceUptoCard : Claim7 := { stood := { row := patternAnyMatchesReferenceUptoRow, standIns := [], harness := (true, "26db747c765072c2bb089c96f033d84184d0b4162acaa2187dc7b40eb3b69af3"), looks := false }, kinds := [], alts := [], laidByText := true, laidKinds := [.data, .data, .pinned], laidTests := true, laidLooks := .later }
def PatternAnyMatchesReferenceUptoCardSaid : Prop := Claim7.holds Tryz.pinned (.plain (OpenSpec.upto patternAnyMatchesReferenceSpec)) patternAnyMatchesReferenceUptoCard

/-- THE SECOND FORM's CARD OF 'koinelaw04.PatternCommonMatchesReference'. -/
def patternCommonMatchesReferenceUptoCard : Claim7 := { stood := { row := patternCommonMatchesReferenceUptoRow, standIns := [], harness := (true, "26db747c765072c2bb089c96f033d84184d0b4162acaa2187dc7b40eb3b69af3"), looks := false }, kinds := [], alts := [], laidByText := true, laidKinds := [.data], laidTests := true, laidLooks := .later }
def PatternCommonMatchesReferenceUptoCardSaid : Prop := Claim7.holds Tryz.pinned (.plain (OpenSpec.upto patternCommonMatchesReferenceSpec)) patternCommonMatchesReferenceUptoCard
end Rows
end Go.Proofs.YtfkljlncnfeklaaGreatDoor
