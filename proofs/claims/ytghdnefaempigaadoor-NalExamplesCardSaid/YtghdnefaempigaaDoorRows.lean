/-
  NARROWER THAN 'FOR EVERY INPUT', by the rows' own cells (each row's printed sentence says how): NalMatches: laid · NalEncodes: laid · NalExamples: laid · NalBack: laid · NalLengths: laid · NalUnits: laid · NalParts: laid · NalZeros: laid.
  DERIVED. THE GIVEN ROWS OF THIS SEAT. 8 by the template 'for every input the law returns true; each argument reads behind the call as it read before'; 0 by the template 'total and deterministic' (their statements: YtghdnefaempigaaDoorTotals.lean).
  GIVEN WITH THE SEED: the statements are not yours to turn. If you find one false, say at which input.
  Laid BY PROGRAM, IN A SANDBOX (cutbox-rows.mjs): the forced cells as the released guide's own fill.sh prints them over the translation 6e2ca72ddb6f8415… (all of the seat's roots in one cut). By AI agents, Wed Nov 11 2026. No macro, syntax, notation, axiom, sorry.
-/
import Derived.Test.YtghdnefaempigaaDoorChecked
import GoSem.PinnedTables
import GoSem.Claim
import GoSem.ClaimJoined
import GoSem.ClaimMapViews
import Derived.JoinedTies
import Derived.KernelRfl
namespace Go.Proofs.YtghdnefaempigaaDoor
/- THE CELL 'sum', in the pinned program and in every row, IS THE sha256 OF THE DUMP (.gsa) THAT YtghdnefaempigaaDoorProg.lean LOADS. Nothing in Lean hashes anything: it is a label: what it is worth is what the hold of that sum in a sandbox is worth. -/
noncomputable def Tryd.pinned : Pinned := { name := "ytghdnefaempigaadoor", sum := "6e2ca72ddb6f84158b6d7f1399a7c34af0a0845285e2fe9bc0736bcda01d331f", checked := Tryd.checked }
namespace Rows
def none {H : Type} : Left H := { results := [], args := [] }

/- WHAT THE LISTED PACKAGE-LEVEL VARIABLES READ AS WHEN THE CALL BEGINS. Each datum BY PROGRAM (the guide's laid-datum.mjs) off the statement by which the dump's own 'gosem.cut.vars' lays the variable. In a bare row this is a premise. The card (YtghdnefaempigaaDoorCards.lean) ties it to the program's text. -/
def laid_unicode_utf8_acceptRanges {H : Type} : DataW H := .agg [.agg [.lit (.int .u8 128), .lit (.int .u8 191)], .agg [.lit (.int .u8 160), .lit (.int .u8 191)], .agg [.lit (.int .u8 128), .lit (.int .u8 159)], .agg [.lit (.int .u8 144), .lit (.int .u8 191)], .agg [.lit (.int .u8 128), .lit (.int .u8 143)], .agg [.lit (.int .u8 0), .lit (.int .u8 0)], .agg [.lit (.int .u8 0), .lit (.int .u8 0)], .agg [.lit (.int .u8 0), .lit (.int .u8 0)], .agg [.lit (.int .u8 0), .lit (.int .u8 0)], .agg [.lit (.int .u8 0), .lit (.int .u8 0)], .agg [.lit (.int .u8 0), .lit (.int .u8 0)], .agg [.lit (.int .u8 0), .lit (.int .u8 0)], .agg [.lit (.int .u8 0), .lit (.int .u8 0)], .agg [.lit (.int .u8 0), .lit (.int .u8 0)], .agg [.lit (.int .u8 0), .lit (.int .u8 0)], .agg [.lit (.int .u8 0), .lit (.int .u8 0)]]
/-- One of Go's own tables, pinned by name: the form's constant. -/
def laid_unicode_utf8_first : DataW Unit := Go.Pinned.utf8First

/-- 'spindlelaw03.NalMatches': WHATEVER THE INPUT: true; the input reads as it did. -/
def nalMatchesSpec : ChangeSpec := { name := "nalMatches", fn := fun _ => fun
  | [d] => { results := [.lit (.bool true)], args := [d] }
  | _ => none }
def nalMatchesRow : OpenClaim := { program := "ytghdnefaempigaadoor", sum := "6e2ca72ddb6f84158b6d7f1399a7c34af0a0845285e2fe9bc0736bcda01d331f", func := "spindle/spindlelaw03.NalMatches", spec := "nalMatches", inPlace := ["internal/abi.NoEscape", "internal/bytealg.MakeNoZero", "internal/bytealg.IndexByteString", "internal/bytealg.IndexString"], unfollowed := true, recurses := true, named := ["unicode/utf8.first", "unicode/utf8.acceptRanges", "internal/bytealg.MaxLen"], apart := false, laid := [("unicode/utf8.acceptRanges", laid_unicode_utf8_acceptRanges), ("unicode/utf8.first", laid_unicode_utf8_first)] }
def NalMatchesSaid : Prop := nalMatchesRow.holds Tryd.pinned (OpenSpec.ofChange nalMatchesSpec)

/-- ITS FALSE NEIGHBOUR: 'it returns false'. Refute it at one input. -/
def nalMatchesWrong : ChangeSpec := { name := "nalMatches", fn := fun _ => fun
  | [d] => { results := [.lit (.bool false)], args := [d] }
  | _ => none }
def NalMatchesWrongFalsely : Prop := nalMatchesRow.holds Tryd.pinned (OpenSpec.ofChange nalMatchesWrong)

/-- 'spindlelaw03.NalEncodes': WHATEVER THE INPUT: true; the input reads as it did. -/
def nalEncodesSpec : ChangeSpec := { name := "nalEncodes", fn := fun _ => fun
  | [d] => { results := [.lit (.bool true)], args := [d] }
  | _ => none }
def nalEncodesRow : OpenClaim := { program := "ytghdnefaempigaadoor", sum := "6e2ca72ddb6f84158b6d7f1399a7c34af0a0845285e2fe9bc0736bcda01d331f", func := "spindle/spindlelaw03.NalEncodes", spec := "nalEncodes", inPlace := ["internal/abi.NoEscape", "internal/bytealg.MakeNoZero", "internal/bytealg.IndexByteString", "internal/bytealg.IndexString"], unfollowed := true, recurses := true, named := ["unicode/utf8.first", "unicode/utf8.acceptRanges", "internal/bytealg.MaxLen"], apart := false, laid := [("unicode/utf8.acceptRanges", laid_unicode_utf8_acceptRanges), ("unicode/utf8.first", laid_unicode_utf8_first)] }
def NalEncodesSaid : Prop := nalEncodesRow.holds Tryd.pinned (OpenSpec.ofChange nalEncodesSpec)

/-- ITS FALSE NEIGHBOUR: 'it returns false'. Refute it at one input. -/
def nalEncodesWrong : ChangeSpec := { name := "nalEncodes", fn := fun _ => fun
  | [d] => { results := [.lit (.bool false)], args := [d] }
  | _ => none }
def NalEncodesWrongFalsely : Prop := nalEncodesRow.holds Tryd.pinned (OpenSpec.ofChange nalEncodesWrong)

/-- 'spindlelaw03.NalExamples': WHATEVER THE INPUT: true; the input reads as it did. -/
def nalExamplesSpec : ChangeSpec := { name := "nalExamples", fn := fun _ => fun
  | [] => { results := [.lit (.bool true)], args := [] }
  | _ => none }
def nalExamplesRow : OpenClaim := { program := "ytghdnefaempigaadoor", sum := "6e2ca72ddb6f84158b6d7f1399a7c34af0a0845285e2fe9bc0736bcda01d331f", func := "spindle/spindlelaw03.NalExamples", spec := "nalExamples", inPlace := ["internal/abi.NoEscape", "internal/bytealg.MakeNoZero", "internal/bytealg.IndexByteString", "internal/bytealg.IndexString"], unfollowed := true, recurses := true, named := ["unicode/utf8.first", "unicode/utf8.acceptRanges", "internal/bytealg.MaxLen"], apart := false, laid := [("unicode/utf8.acceptRanges", laid_unicode_utf8_acceptRanges), ("unicode/utf8.first", laid_unicode_utf8_first)] }
def NalExamplesSaid : Prop := nalExamplesRow.holds Tryd.pinned (OpenSpec.ofChange nalExamplesSpec)

/-- ITS FALSE NEIGHBOUR: 'it returns false'. Refute it at one input. -/
def nalExamplesWrong : ChangeSpec := { name := "nalExamples", fn := fun _ => fun
  | [] => { results := [.lit (.bool false)], args := [] }
  | _ => none }
def NalExamplesWrongFalsely : Prop := nalExamplesRow.holds Tryd.pinned (OpenSpec.ofChange nalExamplesWrong)

/-- 'spindlelaw03.NalBack': WHATEVER THE INPUT: true; the input reads as it did. -/
def nalBackSpec : ChangeSpec := { name := "nalBack", fn := fun _ => fun
  | [d] => { results := [.lit (.bool true)], args := [d] }
  | _ => none }
def nalBackRow : OpenClaim := { program := "ytghdnefaempigaadoor", sum := "6e2ca72ddb6f84158b6d7f1399a7c34af0a0845285e2fe9bc0736bcda01d331f", func := "spindle/spindlelaw03.NalBack", spec := "nalBack", inPlace := ["internal/abi.NoEscape", "internal/bytealg.MakeNoZero", "internal/bytealg.IndexByteString", "internal/bytealg.IndexString"], unfollowed := true, recurses := true, named := ["unicode/utf8.first", "unicode/utf8.acceptRanges", "internal/bytealg.MaxLen"], apart := false, laid := [("unicode/utf8.acceptRanges", laid_unicode_utf8_acceptRanges), ("unicode/utf8.first", laid_unicode_utf8_first)] }
def NalBackSaid : Prop := nalBackRow.holds Tryd.pinned (OpenSpec.ofChange nalBackSpec)

/-- ITS FALSE NEIGHBOUR: 'it returns false'. Refute it at one input. -/
def nalBackWrong : ChangeSpec := { name := "nalBack", fn := fun _ => fun
  | [d] => { results := [.lit (.bool false)], args := [d] }
  | _ => none }
def NalBackWrongFalsely : Prop := nalBackRow.holds Tryd.pinned (OpenSpec.ofChange nalBackWrong)

/-- 'spindlelaw03.NalLengths': WHATEVER THE INPUT: true; the input reads as it did. -/
def nalLengthsSpec : ChangeSpec := { name := "nalLengths", fn := fun _ => fun
  | [d] => { results := [.lit (.bool true)], args := [d] }
  | _ => none }
def nalLengthsRow : OpenClaim := { program := "ytghdnefaempigaadoor", sum := "6e2ca72ddb6f84158b6d7f1399a7c34af0a0845285e2fe9bc0736bcda01d331f", func := "spindle/spindlelaw03.NalLengths", spec := "nalLengths", inPlace := ["internal/abi.NoEscape", "internal/bytealg.MakeNoZero", "internal/bytealg.IndexByteString", "internal/bytealg.IndexString"], unfollowed := true, recurses := true, named := ["unicode/utf8.first", "unicode/utf8.acceptRanges", "internal/bytealg.MaxLen"], apart := false, laid := [("unicode/utf8.acceptRanges", laid_unicode_utf8_acceptRanges), ("unicode/utf8.first", laid_unicode_utf8_first)] }
def NalLengthsSaid : Prop := nalLengthsRow.holds Tryd.pinned (OpenSpec.ofChange nalLengthsSpec)

/-- ITS FALSE NEIGHBOUR: 'it returns false'. Refute it at one input. -/
def nalLengthsWrong : ChangeSpec := { name := "nalLengths", fn := fun _ => fun
  | [d] => { results := [.lit (.bool false)], args := [d] }
  | _ => none }
def NalLengthsWrongFalsely : Prop := nalLengthsRow.holds Tryd.pinned (OpenSpec.ofChange nalLengthsWrong)

/-- 'spindlelaw03.NalUnits': WHATEVER THE INPUT: true; the input reads as it did. -/
def nalUnitsSpec : ChangeSpec := { name := "nalUnits", fn := fun _ => fun
  | [d1, d2, d3, d4] => { results := [.lit (.bool true)], args := [d1, d2, d3, d4] }
  | _ => none }
def nalUnitsRow : OpenClaim := { program := "ytghdnefaempigaadoor", sum := "6e2ca72ddb6f84158b6d7f1399a7c34af0a0845285e2fe9bc0736bcda01d331f", func := "spindle/spindlelaw03.NalUnits", spec := "nalUnits", inPlace := ["internal/abi.NoEscape", "internal/bytealg.MakeNoZero", "internal/bytealg.IndexByteString", "internal/bytealg.IndexString"], unfollowed := true, recurses := true, named := ["unicode/utf8.first", "unicode/utf8.acceptRanges", "internal/bytealg.MaxLen"], apart := false, laid := [("unicode/utf8.acceptRanges", laid_unicode_utf8_acceptRanges), ("unicode/utf8.first", laid_unicode_utf8_first)] }
def NalUnitsSaid : Prop := nalUnitsRow.holds Tryd.pinned (OpenSpec.ofChange nalUnitsSpec)

/-- ITS FALSE NEIGHBOUR: 'it returns false'. Refute it at one input. -/
def nalUnitsWrong : ChangeSpec := { name := "nalUnits", fn := fun _ => fun
  | [d1, d2, d3, d4] => { results := [.lit (.bool false)], args := [d1, d2, d3, d4] }
  | _ => none }
def NalUnitsWrongFalsely : Prop := nalUnitsRow.holds Tryd.pinned (OpenSpec.ofChange nalUnitsWrong)

/-- 'spindlelaw03.NalParts': WHATEVER THE INPUT: true; the input reads as it did. -/
def nalPartsSpec : ChangeSpec := { name := "nalParts", fn := fun _ => fun
  | [d1, d2] => { results := [.lit (.bool true)], args := [d1, d2] }
  | _ => none }
def nalPartsRow : OpenClaim := { program := "ytghdnefaempigaadoor", sum := "6e2ca72ddb6f84158b6d7f1399a7c34af0a0845285e2fe9bc0736bcda01d331f", func := "spindle/spindlelaw03.NalParts", spec := "nalParts", inPlace := ["internal/abi.NoEscape", "internal/bytealg.MakeNoZero", "internal/bytealg.IndexByteString", "internal/bytealg.IndexString"], unfollowed := true, recurses := true, named := ["unicode/utf8.first", "unicode/utf8.acceptRanges", "internal/bytealg.MaxLen"], apart := false, laid := [("unicode/utf8.acceptRanges", laid_unicode_utf8_acceptRanges), ("unicode/utf8.first", laid_unicode_utf8_first)] }
def NalPartsSaid : Prop := nalPartsRow.holds Tryd.pinned (OpenSpec.ofChange nalPartsSpec)

/-- ITS FALSE NEIGHBOUR: 'it returns false'. Refute it at one input. -/
def nalPartsWrong : ChangeSpec := { name := "nalParts", fn := fun _ => fun
  | [d1, d2] => { results := [.lit (.bool false)], args := [d1, d2] }
  | _ => none }
def NalPartsWrongFalsely : Prop := nalPartsRow.holds Tryd.pinned (OpenSpec.ofChange nalPartsWrong)

/-- 'spindlelaw03.NalZeros': WHATEVER THE INPUT: true; the input reads as it did. -/
def nalZerosSpec : ChangeSpec := { name := "nalZeros", fn := fun _ => fun
  | [d1, d2] => { results := [.lit (.bool true)], args := [d1, d2] }
  | _ => none }
def nalZerosRow : OpenClaim := { program := "ytghdnefaempigaadoor", sum := "6e2ca72ddb6f84158b6d7f1399a7c34af0a0845285e2fe9bc0736bcda01d331f", func := "spindle/spindlelaw03.NalZeros", spec := "nalZeros", inPlace := ["internal/abi.NoEscape", "internal/bytealg.MakeNoZero", "internal/bytealg.IndexByteString", "internal/bytealg.IndexString"], unfollowed := true, recurses := true, named := ["unicode/utf8.first", "unicode/utf8.acceptRanges", "internal/bytealg.MaxLen"], apart := false, laid := [("unicode/utf8.acceptRanges", laid_unicode_utf8_acceptRanges), ("unicode/utf8.first", laid_unicode_utf8_first)] }
def NalZerosSaid : Prop := nalZerosRow.holds Tryd.pinned (OpenSpec.ofChange nalZerosSpec)

/-- ITS FALSE NEIGHBOUR: 'it returns false'. Refute it at one input. -/
def nalZerosWrong : ChangeSpec := { name := "nalZeros", fn := fun _ => fun
  | [d1, d2] => { results := [.lit (.bool false)], args := [d1, d2] }
  | _ => none }
def NalZerosWrongFalsely : Prop := nalZerosRow.holds Tryd.pinned (OpenSpec.ofChange nalZerosWrong)

/- THE SECOND FORM. 'bulk': how many values and letters a reading holds, each counted each time it is reached (what is shared counts as often as it is met; a slice's spare places count too). A statement '..UptoSaid' is the law's where the arguments, and the package variables that the reading takes, are together of bulk at most 1048576: NARROWER than '..Said'. Prove '..Said' where nothing that the law and all that it calls make is longer than what came in: it says more and counts as full. Else prove '..UptoSaid'. A law counts once. -/
mutual
def uptoBulk {H : Type} : DataW H → Nat
  | .lit (.string bytes) => bytes.length + 1
  | .lit _ => 1
  | .nil => 1
  | .ptr d => uptoBulk d + 1
  | .slice elems spare => uptoBulkAll elems + uptoBulkAll spare + 1
  | .agg parts => uptoBulkAll parts + 1
  | .iface _ d => uptoBulk d + 1
  | .map entries => uptoBulkEntries entries + 1
  | .held _ => 1
def uptoBulkAll {H : Type} : List (DataW H) → Nat
  | [] => 0
  | d :: r => uptoBulk d + uptoBulkAll r
def uptoBulkEntries {H : Type} : List (Lit × DataW H) → Nat
  | [] => 0
  | x :: r => uptoBulkEntry x + uptoBulkEntries r
def uptoBulkEntry {H : Type} : Lit × DataW H → Nat
  | (.string bytes, d) => bytes.length + uptoBulk d + 1
  | (_, d) => uptoBulk d + 1
 end
def uptoSmall : (H : Type) → List (DataW H) → Bool := fun _ ds => decide (uptoBulkAll ds ≤ 1048576)
def OpenSpec.upto (s : _root_.Go.ChangeSpec) : _root_.Go.OpenSpec := { _root_.Go.OpenSpec.ofChange s with cond := some uptoSmall }

/-- 'spindlelaw03.NalMatches', WHERE WHAT IT READS IS OF BULK AT MOST 1048576: true; the input reads as it did. -/
def nalMatchesUptoRow : OpenClaim := { program := "ytghdnefaempigaadoor", sum := "6e2ca72ddb6f84158b6d7f1399a7c34af0a0845285e2fe9bc0736bcda01d331f", func := "spindle/spindlelaw03.NalMatches", spec := "nalMatches", inPlace := ["internal/abi.NoEscape", "internal/bytealg.MakeNoZero", "internal/bytealg.IndexByteString", "internal/bytealg.IndexString"], unfollowed := true, recurses := true, named := ["unicode/utf8.first", "unicode/utf8.acceptRanges", "internal/bytealg.MaxLen"], apart := false, laid := [("unicode/utf8.acceptRanges", laid_unicode_utf8_acceptRanges), ("unicode/utf8.first", laid_unicode_utf8_first)], narrowed := true }
def NalMatchesUptoSaid : Prop := nalMatchesUptoRow.holds Tryd.pinned (OpenSpec.upto nalMatchesSpec)

/-- 'spindlelaw03.NalEncodes', WHERE WHAT IT READS IS OF BULK AT MOST 1048576: true; the input reads as it did. -/
def nalEncodesUptoRow : OpenClaim := { program := "ytghdnefaempigaadoor", sum := "6e2ca72ddb6f84158b6d7f1399a7c34af0a0845285e2fe9bc0736bcda01d331f", func := "spindle/spindlelaw03.NalEncodes", spec := "nalEncodes", inPlace := ["internal/abi.NoEscape", "internal/bytealg.MakeNoZero", "internal/bytealg.IndexByteString", "internal/bytealg.IndexString"], unfollowed := true, recurses := true, named := ["unicode/utf8.first", "unicode/utf8.acceptRanges", "internal/bytealg.MaxLen"], apart := false, laid := [("unicode/utf8.acceptRanges", laid_unicode_utf8_acceptRanges), ("unicode/utf8.first", laid_unicode_utf8_first)], narrowed := true }
def NalEncodesUptoSaid : Prop := nalEncodesUptoRow.holds Tryd.pinned (OpenSpec.upto nalEncodesSpec)

/-- 'spindlelaw03.NalExamples', WHERE WHAT IT READS IS OF BULK AT MOST 1048576: true; the input reads as it did. -/
def nalExamplesUptoRow : OpenClaim := { program := "ytghdnefaempigaadoor", sum := "6e2ca72ddb6f84158b6d7f1399a7c34af0a0845285e2fe9bc0736bcda01d331f", func := "spindle/spindlelaw03.NalExamples", spec := "nalExamples", inPlace := ["internal/abi.NoEscape", "internal/bytealg.MakeNoZero", "internal/bytealg.IndexByteString", "internal/bytealg.IndexString"], unfollowed := true, recurses := true, named := ["unicode/utf8.first", "unicode/utf8.acceptRanges", "internal/bytealg.MaxLen"], apart := false, laid := [("unicode/utf8.acceptRanges", laid_unicode_utf8_acceptRanges), ("unicode/utf8.first", laid_unicode_utf8_first)], narrowed := true }
def NalExamplesUptoSaid : Prop := nalExamplesUptoRow.holds Tryd.pinned (OpenSpec.upto nalExamplesSpec)

/-- 'spindlelaw03.NalBack', WHERE WHAT IT READS IS OF BULK AT MOST 1048576: true; the input reads as it did. -/
def nalBackUptoRow : OpenClaim := { program := "ytghdnefaempigaadoor", sum := "6e2ca72ddb6f84158b6d7f1399a7c34af0a0845285e2fe9bc0736bcda01d331f", func := "spindle/spindlelaw03.NalBack", spec := "nalBack", inPlace := ["internal/abi.NoEscape", "internal/bytealg.MakeNoZero", "internal/bytealg.IndexByteString", "internal/bytealg.IndexString"], unfollowed := true, recurses := true, named := ["unicode/utf8.first", "unicode/utf8.acceptRanges", "internal/bytealg.MaxLen"], apart := false, laid := [("unicode/utf8.acceptRanges", laid_unicode_utf8_acceptRanges), ("unicode/utf8.first", laid_unicode_utf8_first)], narrowed := true }
def NalBackUptoSaid : Prop := nalBackUptoRow.holds Tryd.pinned (OpenSpec.upto nalBackSpec)

/-- 'spindlelaw03.NalLengths', WHERE WHAT IT READS IS OF BULK AT MOST 1048576: true; the input reads as it did. -/
def nalLengthsUptoRow : OpenClaim := { program := "ytghdnefaempigaadoor", sum := "6e2ca72ddb6f84158b6d7f1399a7c34af0a0845285e2fe9bc0736bcda01d331f", func := "spindle/spindlelaw03.NalLengths", spec := "nalLengths", inPlace := ["internal/abi.NoEscape", "internal/bytealg.MakeNoZero", "internal/bytealg.IndexByteString", "internal/bytealg.IndexString"], unfollowed := true, recurses := true, named := ["unicode/utf8.first", "unicode/utf8.acceptRanges", "internal/bytealg.MaxLen"], apart := false, laid := [("unicode/utf8.acceptRanges", laid_unicode_utf8_acceptRanges), ("unicode/utf8.first", laid_unicode_utf8_first)], narrowed := true }
def NalLengthsUptoSaid : Prop := nalLengthsUptoRow.holds Tryd.pinned (OpenSpec.upto nalLengthsSpec)

/-- 'spindlelaw03.NalUnits', WHERE WHAT IT READS IS OF BULK AT MOST 1048576: true; the input reads as it did. -/
def nalUnitsUptoRow : OpenClaim := { program := "ytghdnefaempigaadoor", sum := "6e2ca72ddb6f84158b6d7f1399a7c34af0a0845285e2fe9bc0736bcda01d331f", func := "spindle/spindlelaw03.NalUnits", spec := "nalUnits", inPlace := ["internal/abi.NoEscape", "internal/bytealg.MakeNoZero", "internal/bytealg.IndexByteString", "internal/bytealg.IndexString"], unfollowed := true, recurses := true, named := ["unicode/utf8.first", "unicode/utf8.acceptRanges", "internal/bytealg.MaxLen"], apart := false, laid := [("unicode/utf8.acceptRanges", laid_unicode_utf8_acceptRanges), ("unicode/utf8.first", laid_unicode_utf8_first)], narrowed := true }
def NalUnitsUptoSaid : Prop := nalUnitsUptoRow.holds Tryd.pinned (OpenSpec.upto nalUnitsSpec)

/-- 'spindlelaw03.NalParts', WHERE WHAT IT READS IS OF BULK AT MOST 1048576: true; the input reads as it did. -/
def nalPartsUptoRow : OpenClaim := { program := "ytghdnefaempigaadoor", sum := "6e2ca72ddb6f84158b6d7f1399a7c34af0a0845285e2fe9bc0736bcda01d331f", func := "spindle/spindlelaw03.NalParts", spec := "nalParts", inPlace := ["internal/abi.NoEscape", "internal/bytealg.MakeNoZero", "internal/bytealg.IndexByteString", "internal/bytealg.IndexString"], unfollowed := true, recurses := true, named := ["unicode/utf8.first", "unicode/utf8.acceptRanges", "internal/bytealg.MaxLen"], apart := false, laid := [("unicode/utf8.acceptRanges", laid_unicode_utf8_acceptRanges), ("unicode/utf8.first", laid_unicode_utf8_first)], narrowed := true }
def NalPartsUptoSaid : Prop := nalPartsUptoRow.holds Tryd.pinned (OpenSpec.upto nalPartsSpec)

/-- 'spindlelaw03.NalZeros', WHERE WHAT IT READS IS OF BULK AT MOST 1048576: true; the input reads as it did. -/
def nalZerosUptoRow : OpenClaim := { program := "ytghdnefaempigaadoor", sum := "6e2ca72ddb6f84158b6d7f1399a7c34af0a0845285e2fe9bc0736bcda01d331f", func := "spindle/spindlelaw03.NalZeros", spec := "nalZeros", inPlace := ["internal/abi.NoEscape", "internal/bytealg.MakeNoZero", "internal/bytealg.IndexByteString", "internal/bytealg.IndexString"], unfollowed := true, recurses := true, named := ["unicode/utf8.first", "unicode/utf8.acceptRanges", "internal/bytealg.MaxLen"], apart := false, laid := [("unicode/utf8.acceptRanges", laid_unicode_utf8_acceptRanges), ("unicode/utf8.first", laid_unicode_utf8_first)], narrowed := true }
def NalZerosUptoSaid : Prop := nalZerosUptoRow.holds Tryd.pinned (OpenSpec.upto nalZerosSpec)

end Rows
end Go.Proofs.YtghdnefaempigaaDoor
