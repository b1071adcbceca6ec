/-
  DERIVED. GIVEN WITH THE SEED: THE CARDS: each row of YtgjhicahopcfcaaGreatDoorRows.lean that lists a variable, with what it lists TIED to the program's text (the seventh form; the later family's looks); each row that meets fmt, with fmt's text TOLD by the authors' own Lean function (tested against real Go, not proved from fmt's source: count such statements apart). THE CARD IS WHAT COUNTS. Prove the row's statement (the work); the ties are given (YtgjhicahopcfcaaGreatDoorTie.lean); close each card by the builder's one call (the guide's Derived/Test/ToyasCard.lean, 'card_holds'). Laid BY PROGRAM, IN A SANDBOX (cutbox-door.mjs). By AI agents, Wed Nov 11 2026. No macro, syntax, notation, axiom, sorry.
-/
import Derived.Test.YtgjhicahopcfcaaGreatDoorRows
import GoSem.ClaimSeven
namespace Go.Proofs.YtgjhicahopcfcaaGreatDoor
namespace Rows

/-- THE TIED CARD OF 'koinelaw04.PatternMatchesReference'. -/
def patternMatchesReferenceCard : Claim7 := { stood := { row := patternMatchesReferenceRow, standIns := [], harness := (true, "f5de41d6277dcf5320686bf5192532c5807d68a51288076daa17893de34d8a1b"), looks := false }, kinds := [], alts := [], laidByText := true, laidKinds := [.data], laidTests := true, laidLooks := .later }
def PatternMatchesReferenceCardSaid : Prop := Claim7.holds Tryz.pinned (.plain (OpenSpec.ofChange patternMatchesReferenceSpec)) patternMatchesReferenceCard

/-- THE TIED CARD OF 'koinelaw04.PatternAnyMatchesReference'. -/
def patternAnyMatchesReferenceCard : Claim7 := { stood := { row := patternAnyMatchesReferenceRow, standIns := [], harness := (true, "f5de41d6277dcf5320686bf5192532c5807d68a51288076daa17893de34d8a1b"), looks := false }, kinds := [], alts := [], laidByText := true, laidKinds := [.data, .data, .pinned], laidTests := true, laidLooks := .later }
def PatternAnyMatchesReferenceCardSaid : Prop := Claim7.holds Tryz.pinned (.plain (OpenSpec.ofChange patternAnyMatchesReferenceSpec)) patternAnyMatchesReferenceCard

/-- THE TIED CARD OF 'koinelaw04.PatternSyntaxMatchesReference'. -/
def patternSyntaxMatchesReferenceCard : Claim7 := { stood := { row := patternSyntaxMatchesReferenceRow, standIns := [], harness := (true, "f5de41d6277dcf5320686bf5192532c5807d68a51288076daa17893de34d8a1b"), looks := false }, kinds := [], alts := [], laidByText := true, laidKinds := [.data], laidTests := true, laidLooks := .later }
def PatternSyntaxMatchesReferenceCardSaid : Prop := Claim7.holds Tryz.pinned (.plain (OpenSpec.ofChange patternSyntaxMatchesReferenceSpec)) patternSyntaxMatchesReferenceCard

/-- THE TIED CARD OF 'koinelaw04.PatternLimits'. -/
def patternLimitsCard : Claim7 := { stood := { row := patternLimitsRow, standIns := [], harness := (true, "f5de41d6277dcf5320686bf5192532c5807d68a51288076daa17893de34d8a1b"), looks := false }, kinds := [], alts := [], laidByText := true, laidKinds := [.data], laidTests := true, laidLooks := .later }
def PatternLimitsCardSaid : Prop := Claim7.holds Tryz.pinned (.plain (OpenSpec.ofChange patternLimitsSpec)) patternLimitsCard

/-- THE TIED CARD OF 'koinelaw04.PatternCommonMatchesReference'. -/
def patternCommonMatchesReferenceCard : Claim7 := { stood := { row := patternCommonMatchesReferenceRow, standIns := [], harness := (true, "f5de41d6277dcf5320686bf5192532c5807d68a51288076daa17893de34d8a1b"), looks := false }, kinds := [], alts := [], laidByText := true, laidKinds := [.data], laidTests := true, laidLooks := .later }
def PatternCommonMatchesReferenceCardSaid : Prop := Claim7.holds Tryz.pinned (.plain (OpenSpec.ofChange patternCommonMatchesReferenceSpec)) patternCommonMatchesReferenceCard

/-- THE SECOND FORM's CARD OF 'koinelaw04.PatternMatchesReference'. -/
def patternMatchesReferenceUptoCard : Claim7 := { stood := { row := patternMatchesReferenceUptoRow, standIns := [], harness := (true, "f5de41d6277dcf5320686bf5192532c5807d68a51288076daa17893de34d8a1b"), looks := false }, kinds := [], alts := [], laidByText := true, laidKinds := [.data], laidTests := true, laidLooks := .later }
def PatternMatchesReferenceUptoCardSaid : Prop := Claim7.holds Tryz.pinned (.plain (OpenSpec.upto patternMatchesReferenceSpec)) patternMatchesReferenceUptoCard

/-- THE SECOND FORM's CARD OF 'koinelaw04.PatternAnyMatchesReference'. -/
def patternAnyMatchesReferenceUptoCard : Claim7 := { stood := { row := patternAnyMatchesReferenceUptoRow, standIns := [], harness := (true, "f5de41d6277dcf5320686bf5192532c5807d68a51288076daa17893de34d8a1b"), looks := false }, kinds := [], alts := [], laidByText := true, laidKinds := [.data, .data, .pinned], laidTests := true, laidLooks := .later }
def PatternAnyMatchesReferenceUptoCardSaid : Prop := Claim7.holds Tryz.pinned (.plain (OpenSpec.upto patternAnyMatchesReferenceSpec)) patternAnyMatchesReferenceUptoCard

/-- THE SECOND FORM's CARD OF 'koinelaw04.PatternSyntaxMatchesReference'. -/
def patternSyntaxMatchesReferenceUptoCard : Claim7 := { stood := { row := patternSyntaxMatchesReferenceUptoRow, standIns := [], harness := (true, "f5de41d6277dcf5320686bf5192532c5807d68a51288076daa17893de34d8a1b"), looks := false }, kinds := [], alts := [], laidByText := true, laidKinds := [.data], laidTests := true, laidLooks := .later }
def PatternSyntaxMatchesReferenceUptoCardSaid : Prop := Claim7.holds Tryz.pinned (.plain (OpenSpec.upto patternSyntaxMatchesReferenceSpec)) patternSyntaxMatchesReferenceUptoCard

/-- THE SECOND FORM's CARD OF 'koinelaw04.PatternLimits'. -/
def patternLimitsUptoCard : Claim7 := { stood := { row := patternLimitsUptoRow, standIns := [], harness := (true, "f5de41d6277dcf5320686bf5192532c5807d68a51288076daa17893de34d8a1b"), looks := false }, kinds := [], alts := [], laidByText := true, laidKinds := [.data], laidTests := true, laidLooks := .later }
def PatternLimitsUptoCardSaid : Prop := Claim7.holds Tryz.pinned (.plain (OpenSpec.upto patternLimitsSpec)) patternLimitsUptoCard

/-- THE SECOND FORM's CARD OF 'koinelaw04.PatternCommonMatchesReference'. -/
def patternCommonMatchesReferenceUptoCard : Claim7 := { stood := { row := patternCommonMatchesReferenceUptoRow, standIns := [], harness := (true, "f5de41d6277dcf5320686bf5192532c5807d68a51288076daa17893de34d8a1b"), looks := false }, kinds := [], alts := [], laidByText := true, laidKinds := [.data], laidTests := true, laidLooks := .later }
def PatternCommonMatchesReferenceUptoCardSaid : Prop := Claim7.holds Tryz.pinned (.plain (OpenSpec.upto patternCommonMatchesReferenceSpec)) patternCommonMatchesReferenceUptoCard
end Rows
end Go.Proofs.YtgjhicahopcfcaaGreatDoor
