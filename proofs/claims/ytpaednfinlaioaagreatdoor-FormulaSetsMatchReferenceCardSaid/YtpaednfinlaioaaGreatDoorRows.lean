/-
  NARROWER THAN 'FOR EVERY INPUT', by the rows' own cells (each row's printed sentence says how): FormulaSetsMatchReference: laid · FormulaHoldsInItsSet: laid · FormulaCanonical: laid · FormulaOperators: laid.
  DERIVED. THE GIVEN ROWS OF THIS SEAT. 4 by the template 'for every input the law returns true; each argument reads behind the call as it read before'; 0 by the template 'total and deterministic' (their statements: YtpaednfinlaioaaGreatDoorTotals.lean).
  GIVEN WITH THE SEED: the statements are not yours to turn. If you find one false, say at which input.
  Laid BY PROGRAM, IN A SANDBOX (cutbox-rows.mjs): the forced cells as the released guide's own fill.sh prints them over the translation 44f211af69e867ec… (all of the seat's roots in one cut). By AI agents, Wed Nov 11 2026. No macro, syntax, notation, axiom, sorry.
-/
import Derived.Test.YtpaednfinlaioaaGreatDoorChecked
import GoSem.PinnedTables
import GoSem.Claim
import GoSem.ClaimJoined
import GoSem.ClaimMapViews
import Derived.JoinedTies
import Derived.KernelRfl
namespace Go.Proofs.YtpaednfinlaioaaGreatDoor
/- THE CELL 'sum', in the pinned program and in every row, IS THE sha256 OF THE DUMP (.gsa) THAT YtpaednfinlaioaaGreatDoorProg.lean LOADS. Nothing in Lean hashes anything: it is a label: what it is worth is what the hold of that sum in a sandbox is worth. -/
noncomputable def Tryz.pinned : Pinned := { name := "ytpaednfinlaioaagreatdoor", sum := "44f211af69e867ec88ac13531530993427977d91acbe47af681877e64710e5be", checked := Tryz.checked }
namespace Rows
def none {H : Type} : Left H := { results := [], args := [] }

/- WHAT THE LISTED PACKAGE-LEVEL VARIABLES READ AS WHEN THE CALL BEGINS. Each datum BY PROGRAM (the guide's laid-datum.mjs) off the statement by which the dump's own 'gosem.cut.vars' lays the variable. In a bare row this is a premise. The card (YtpaednfinlaioaaGreatDoorCards.lean) ties it to the program's text. -/
def laid_unicode_utf8_acceptRanges {H : Type} : DataW H := .agg [.agg [.lit (.int .u8 128), .lit (.int .u8 191)], .agg [.lit (.int .u8 160), .lit (.int .u8 191)], .agg [.lit (.int .u8 128), .lit (.int .u8 159)], .agg [.lit (.int .u8 144), .lit (.int .u8 191)], .agg [.lit (.int .u8 128), .lit (.int .u8 143)], .agg [.lit (.int .u8 0), .lit (.int .u8 0)], .agg [.lit (.int .u8 0), .lit (.int .u8 0)], .agg [.lit (.int .u8 0), .lit (.int .u8 0)], .agg [.lit (.int .u8 0), .lit (.int .u8 0)], .agg [.lit (.int .u8 0), .lit (.int .u8 0)], .agg [.lit (.int .u8 0), .lit (.int .u8 0)], .agg [.lit (.int .u8 0), .lit (.int .u8 0)], .agg [.lit (.int .u8 0), .lit (.int .u8 0)], .agg [.lit (.int .u8 0), .lit (.int .u8 0)], .agg [.lit (.int .u8 0), .lit (.int .u8 0)], .agg [.lit (.int .u8 0), .lit (.int .u8 0)]]
def laid_koine_diagram_inside {H : Type} : DataW H := .agg [.lit (.int .u8 170), .lit (.int .u8 204), .lit (.int .u8 240)]
/-- One of Go's own tables, pinned by name: the form's constant. -/
def laid_unicode_utf8_first : DataW Unit := Go.Pinned.utf8First

/-- 'koinelaw03.FormulaSetsMatchReference': WHATEVER THE INPUT: true; the input reads as it did. -/
def formulaSetsMatchReferenceSpec : ChangeSpec := { name := "formulaSetsMatchReference", fn := fun _ => fun
  | [d] => { results := [.lit (.bool true)], args := [d] }
  | _ => none }
def formulaSetsMatchReferenceRow : OpenClaim := { program := "ytpaednfinlaioaagreatdoor", sum := "44f211af69e867ec88ac13531530993427977d91acbe47af681877e64710e5be", func := "koine/koinelaw03.FormulaSetsMatchReference", spec := "formulaSetsMatchReference", inPlace := ["internal/bytealg.IndexByteString", "internal/bytealg.IndexString", "internal/abi.NoEscape"], unfollowed := true, recurses := true, named := ["unicode/utf8.first", "unicode/utf8.acceptRanges", "koine/diagram.inside", "internal/bytealg.MaxLen"], plainKeys := false, apart := false, laid := [("unicode/utf8.acceptRanges", laid_unicode_utf8_acceptRanges), ("koine/diagram.inside", laid_koine_diagram_inside), ("unicode/utf8.first", laid_unicode_utf8_first)] }
def FormulaSetsMatchReferenceSaid : Prop := formulaSetsMatchReferenceRow.holds Tryz.pinned (OpenSpec.ofChange formulaSetsMatchReferenceSpec)

/-- ITS FALSE NEIGHBOUR: 'it returns false'. Refute it at one input. -/
def formulaSetsMatchReferenceWrong : ChangeSpec := { name := "formulaSetsMatchReference", fn := fun _ => fun
  | [d] => { results := [.lit (.bool false)], args := [d] }
  | _ => none }
def FormulaSetsMatchReferenceWrongFalsely : Prop := formulaSetsMatchReferenceRow.holds Tryz.pinned (OpenSpec.ofChange formulaSetsMatchReferenceWrong)

/-- 'koinelaw03.FormulaHoldsInItsSet': WHATEVER THE INPUT: true; the input reads as it did. -/
def formulaHoldsInItsSetSpec : ChangeSpec := { name := "formulaHoldsInItsSet", fn := fun _ => fun
  | [d1, d2, d3] => { results := [.lit (.bool true)], args := [d1, d2, d3] }
  | _ => none }
def formulaHoldsInItsSetRow : OpenClaim := { program := "ytpaednfinlaioaagreatdoor", sum := "44f211af69e867ec88ac13531530993427977d91acbe47af681877e64710e5be", func := "koine/koinelaw03.FormulaHoldsInItsSet", spec := "formulaHoldsInItsSet", inPlace := ["internal/bytealg.IndexByteString", "internal/bytealg.IndexString", "internal/abi.NoEscape"], unfollowed := true, recurses := true, named := ["unicode/utf8.first", "unicode/utf8.acceptRanges", "koine/diagram.inside", "internal/bytealg.MaxLen"], plainKeys := false, apart := false, laid := [("unicode/utf8.acceptRanges", laid_unicode_utf8_acceptRanges), ("koine/diagram.inside", laid_koine_diagram_inside), ("unicode/utf8.first", laid_unicode_utf8_first)] }
def FormulaHoldsInItsSetSaid : Prop := formulaHoldsInItsSetRow.holds Tryz.pinned (OpenSpec.ofChange formulaHoldsInItsSetSpec)

/-- ITS FALSE NEIGHBOUR: 'it returns false'. Refute it at one input. -/
def formulaHoldsInItsSetWrong : ChangeSpec := { name := "formulaHoldsInItsSet", fn := fun _ => fun
  | [d1, d2, d3] => { results := [.lit (.bool false)], args := [d1, d2, d3] }
  | _ => none }
def FormulaHoldsInItsSetWrongFalsely : Prop := formulaHoldsInItsSetRow.holds Tryz.pinned (OpenSpec.ofChange formulaHoldsInItsSetWrong)

/-- 'koinelaw03.FormulaCanonical': WHATEVER THE INPUT: true; the input reads as it did. -/
def formulaCanonicalSpec : ChangeSpec := { name := "formulaCanonical", fn := fun _ => fun
  | [d] => { results := [.lit (.bool true)], args := [d] }
  | _ => none }
def formulaCanonicalRow : OpenClaim := { program := "ytpaednfinlaioaagreatdoor", sum := "44f211af69e867ec88ac13531530993427977d91acbe47af681877e64710e5be", func := "koine/koinelaw03.FormulaCanonical", spec := "formulaCanonical", inPlace := ["internal/bytealg.IndexByteString", "internal/bytealg.IndexString", "internal/abi.NoEscape"], unfollowed := true, recurses := true, named := ["unicode/utf8.first", "unicode/utf8.acceptRanges", "koine/diagram.inside", "internal/bytealg.MaxLen"], plainKeys := false, apart := false, laid := [("unicode/utf8.acceptRanges", laid_unicode_utf8_acceptRanges), ("koine/diagram.inside", laid_koine_diagram_inside), ("unicode/utf8.first", laid_unicode_utf8_first)] }
def FormulaCanonicalSaid : Prop := formulaCanonicalRow.holds Tryz.pinned (OpenSpec.ofChange formulaCanonicalSpec)

/-- ITS FALSE NEIGHBOUR: 'it returns false'. Refute it at one input. -/
def formulaCanonicalWrong : ChangeSpec := { name := "formulaCanonical", fn := fun _ => fun
  | [d] => { results := [.lit (.bool false)], args := [d] }
  | _ => none }
def FormulaCanonicalWrongFalsely : Prop := formulaCanonicalRow.holds Tryz.pinned (OpenSpec.ofChange formulaCanonicalWrong)

/-- 'koinelaw03.FormulaOperators': WHATEVER THE INPUT: true; the input reads as it did. -/
def formulaOperatorsSpec : ChangeSpec := { name := "formulaOperators", fn := fun _ => fun
  | [d1, d2, d3] => { results := [.lit (.bool true)], args := [d1, d2, d3] }
  | _ => none }
def formulaOperatorsRow : OpenClaim := { program := "ytpaednfinlaioaagreatdoor", sum := "44f211af69e867ec88ac13531530993427977d91acbe47af681877e64710e5be", func := "koine/koinelaw03.FormulaOperators", spec := "formulaOperators", inPlace := ["internal/bytealg.IndexByteString", "internal/bytealg.IndexString", "internal/abi.NoEscape"], unfollowed := true, recurses := true, named := ["unicode/utf8.first", "unicode/utf8.acceptRanges", "koine/diagram.inside", "internal/bytealg.MaxLen"], plainKeys := false, apart := false, laid := [("unicode/utf8.acceptRanges", laid_unicode_utf8_acceptRanges), ("koine/diagram.inside", laid_koine_diagram_inside), ("unicode/utf8.first", laid_unicode_utf8_first)] }
def FormulaOperatorsSaid : Prop := formulaOperatorsRow.holds Tryz.pinned (OpenSpec.ofChange formulaOperatorsSpec)

/-- ITS FALSE NEIGHBOUR: 'it returns false'. Refute it at one input. -/
def formulaOperatorsWrong : ChangeSpec := { name := "formulaOperators", fn := fun _ => fun
  | [d1, d2, d3] => { results := [.lit (.bool false)], args := [d1, d2, d3] }
  | _ => none }
def FormulaOperatorsWrongFalsely : Prop := formulaOperatorsRow.holds Tryz.pinned (OpenSpec.ofChange formulaOperatorsWrong)

/- THE SECOND FORM. 'bulk': how many values and letters a reading holds, each counted each time it is reached (what is shared counts as often as it is met; a slice's spare places count too). A statement '..UptoSaid' is the law's where the arguments, and the package variables that the reading takes, are together of bulk at most 1048576: NARROWER than '..Said'. Prove '..Said' where nothing that the law and all that it calls make is longer than what came in: it says more and counts as full. Else prove '..UptoSaid'. A law counts once. -/
mutual
def uptoBulk {H : Type} : DataW H → Nat
  | .lit (.string bytes) => bytes.length + 1
  | .lit _ => 1
  | .nil => 1
  | .ptr d => uptoBulk d + 1
  | .slice elems spare => uptoBulkAll elems + uptoBulkAll spare + 1
  | .agg parts => uptoBulkAll parts + 1
  | .iface _ d => uptoBulk d + 1
  | .map entries => uptoBulkEntries entries + 1
  | .held _ => 1
def uptoBulkAll {H : Type} : List (DataW H) → Nat
  | [] => 0
  | d :: r => uptoBulk d + uptoBulkAll r
def uptoBulkEntries {H : Type} : List (Lit × DataW H) → Nat
  | [] => 0
  | x :: r => uptoBulkEntry x + uptoBulkEntries r
def uptoBulkEntry {H : Type} : Lit × DataW H → Nat
  | (.string bytes, d) => bytes.length + uptoBulk d + 1
  | (_, d) => uptoBulk d + 1
 end
def uptoSmall : (H : Type) → List (DataW H) → Bool := fun _ ds => decide (uptoBulkAll ds ≤ 1048576)
def OpenSpec.upto (s : _root_.Go.ChangeSpec) : _root_.Go.OpenSpec := { _root_.Go.OpenSpec.ofChange s with cond := some uptoSmall }

/-- 'koinelaw03.FormulaSetsMatchReference', WHERE WHAT IT READS IS OF BULK AT MOST 1048576: true; the input reads as it did. -/
def formulaSetsMatchReferenceUptoRow : OpenClaim := { program := "ytpaednfinlaioaagreatdoor", sum := "44f211af69e867ec88ac13531530993427977d91acbe47af681877e64710e5be", func := "koine/koinelaw03.FormulaSetsMatchReference", spec := "formulaSetsMatchReference", inPlace := ["internal/bytealg.IndexByteString", "internal/bytealg.IndexString", "internal/abi.NoEscape"], unfollowed := true, recurses := true, named := ["unicode/utf8.first", "unicode/utf8.acceptRanges", "koine/diagram.inside", "internal/bytealg.MaxLen"], plainKeys := false, apart := false, laid := [("unicode/utf8.acceptRanges", laid_unicode_utf8_acceptRanges), ("koine/diagram.inside", laid_koine_diagram_inside), ("unicode/utf8.first", laid_unicode_utf8_first)], narrowed := true }
def FormulaSetsMatchReferenceUptoSaid : Prop := formulaSetsMatchReferenceUptoRow.holds Tryz.pinned (OpenSpec.upto formulaSetsMatchReferenceSpec)

/-- 'koinelaw03.FormulaHoldsInItsSet', WHERE WHAT IT READS IS OF BULK AT MOST 1048576: true; the input reads as it did. -/
def formulaHoldsInItsSetUptoRow : OpenClaim := { program := "ytpaednfinlaioaagreatdoor", sum := "44f211af69e867ec88ac13531530993427977d91acbe47af681877e64710e5be", func := "koine/koinelaw03.FormulaHoldsInItsSet", spec := "formulaHoldsInItsSet", inPlace := ["internal/bytealg.IndexByteString", "internal/bytealg.IndexString", "internal/abi.NoEscape"], unfollowed := true, recurses := true, named := ["unicode/utf8.first", "unicode/utf8.acceptRanges", "koine/diagram.inside", "internal/bytealg.MaxLen"], plainKeys := false, apart := false, laid := [("unicode/utf8.acceptRanges", laid_unicode_utf8_acceptRanges), ("koine/diagram.inside", laid_koine_diagram_inside), ("unicode/utf8.first", laid_unicode_utf8_first)], narrowed := true }
def FormulaHoldsInItsSetUptoSaid : Prop := formulaHoldsInItsSetUptoRow.holds Tryz.pinned (OpenSpec.upto formulaHoldsInItsSetSpec)

/-- 'koinelaw03.FormulaCanonical', WHERE WHAT IT READS IS OF BULK AT MOST 1048576: true; the input reads as it did. -/
def formulaCanonicalUptoRow : OpenClaim := { program := "ytpaednfinlaioaagreatdoor", sum := "44f211af69e867ec88ac13531530993427977d91acbe47af681877e64710e5be", func := "koine/koinelaw03.FormulaCanonical", spec := "formulaCanonical", inPlace := ["internal/bytealg.IndexByteString", "internal/bytealg.IndexString", "internal/abi.NoEscape"], unfollowed := true, recurses := true, named := ["unicode/utf8.first", "unicode/utf8.acceptRanges", "koine/diagram.inside", "internal/bytealg.MaxLen"], plainKeys := false, apart := false, laid := [("unicode/utf8.acceptRanges", laid_unicode_utf8_acceptRanges), ("koine/diagram.inside", laid_koine_diagram_inside), ("unicode/utf8.first", laid_unicode_utf8_first)], narrowed := true }
def FormulaCanonicalUptoSaid : Prop := formulaCanonicalUptoRow.holds Tryz.pinned (OpenSpec.upto formulaCanonicalSpec)

/-- 'koinelaw03.FormulaOperators', WHERE WHAT IT READS IS OF BULK AT MOST 1048576: true; the input reads as it did. -/
def formulaOperatorsUptoRow : OpenClaim := { program := "ytpaednfinlaioaagreatdoor", sum := "44f211af69e867ec88ac13531530993427977d91acbe47af681877e64710e5be", func := "koine/koinelaw03.FormulaOperators", spec := "formulaOperators", inPlace := ["internal/bytealg.IndexByteString", "internal/bytealg.IndexString", "internal/abi.NoEscape"], unfollowed := true, recurses := true, named := ["unicode/utf8.first", "unicode/utf8.acceptRanges", "koine/diagram.inside", "internal/bytealg.MaxLen"], plainKeys := false, apart := false, laid := [("unicode/utf8.acceptRanges", laid_unicode_utf8_acceptRanges), ("koine/diagram.inside", laid_koine_diagram_inside), ("unicode/utf8.first", laid_unicode_utf8_first)], narrowed := true }
def FormulaOperatorsUptoSaid : Prop := formulaOperatorsUptoRow.holds Tryz.pinned (OpenSpec.upto formulaOperatorsSpec)

end Rows
end Go.Proofs.YtpaednfinlaioaaGreatDoor
