/-
  NARROWER THAN 'FOR EVERY INPUT', by the rows' own cells (each row's printed sentence says how): HeaderChecks: laid · HeaderReads: laid · HeaderExamples: laid · HeaderBack: laid · HeaderOnly: laid.
  DERIVED. THE GIVEN ROWS OF THIS SEAT. 5 by the template 'for every input the law returns true; each argument reads behind the call as it read before'; 0 by the template 'total and deterministic' (their statements: YtojahafmfcfpaaaGreatDoorTotals.lean).
  GIVEN WITH THE SEED: the statements are not yours to turn. If you find one false, say at which input.
  Laid BY PROGRAM, IN A SANDBOX (cutbox-rows.mjs): the forced cells as the released guide's own fill.sh prints them over the translation a5c9be0d62baf74b… (all of the seat's roots in one cut). By AI agents, Wed Nov 11 2026. No macro, syntax, notation, axiom, sorry.
-/
import Derived.Test.YtojahafmfcfpaaaGreatDoorChecked
import GoSem.Claim
import GoSem.ClaimJoined
import GoSem.ClaimMapViews
import Derived.JoinedTies
import Derived.KernelRfl
namespace Go.Proofs.YtojahafmfcfpaaaGreatDoor
/- THE CELL 'sum', in the pinned program and in every row, IS THE sha256 OF THE DUMP (.gsa) THAT YtojahafmfcfpaaaGreatDoorProg.lean LOADS. Nothing in Lean hashes anything: it is a label: what it is worth is what the hold of that sum in a sandbox is worth. -/
noncomputable def Tryz.pinned : Pinned := { name := "ytojahafmfcfpaaagreatdoor", sum := "a5c9be0d62baf74b3d7fae87347172b35349ed4973d85f506d023c8e2e9a7d40", checked := Tryz.checked }
namespace Rows
def none {H : Type} : Left H := { results := [], args := [] }

/- WHAT THE LISTED PACKAGE-LEVEL VARIABLES READ AS WHEN THE CALL BEGINS. Each datum BY PROGRAM (the guide's laid-datum.mjs) off the statement by which the dump's own 'gosem.cut.vars' lays the variable. In a bare row this is a premise. The card (YtojahafmfcfpaaaGreatDoorCards.lean) ties it to the program's text. -/
def laid_spindle_marks_modifications {H : Type} : DataW H := .agg [.lit (.int .u64 3), .agg [.lit (.int .i64 1), .lit (.int .i64 1), .lit (.int .i64 1), .lit (.int .i64 (-1)), .lit (.int .i64 (-1)), .lit (.int .i64 (-1)), .lit (.int .i64 (-1))]]
def laid_spindle_marks_markings {H : Type} : DataW H := .agg [.lit (.int .u64 0), .agg [.lit (.int .i64 (-1)), .lit (.int .i64 1), .lit (.int .i64 1), .lit (.int .i64 2), .lit (.int .i64 1), .lit (.int .i64 0), .lit (.int .i64 1)]]

/-- 'spindlelaw10.HeaderChecks': WHATEVER THE INPUT: true; the input reads as it did. -/
def headerChecksSpec : ChangeSpec := { name := "headerChecks", fn := fun _ => fun
  | [d1, d2] => { results := [.lit (.bool true)], args := [d1, d2] }
  | _ => none }
def headerChecksRow : OpenClaim := { program := "ytojahafmfcfpaaagreatdoor", sum := "a5c9be0d62baf74b3d7fae87347172b35349ed4973d85f506d023c8e2e9a7d40", func := "spindle/spindlelaw10.HeaderChecks", spec := "headerChecks", unfollowed := true, recurses := true, named := ["spindle/marks.modifications", "spindle/marks.markings"], apart := false, laid := [("spindle/marks.modifications", laid_spindle_marks_modifications), ("spindle/marks.markings", laid_spindle_marks_markings)] }
def HeaderChecksSaid : Prop := headerChecksRow.holds Tryz.pinned (OpenSpec.ofChange headerChecksSpec)

/-- ITS FALSE NEIGHBOUR: 'it returns false'. Refute it at one input. -/
def headerChecksWrong : ChangeSpec := { name := "headerChecks", fn := fun _ => fun
  | [d1, d2] => { results := [.lit (.bool false)], args := [d1, d2] }
  | _ => none }
def HeaderChecksWrongFalsely : Prop := headerChecksRow.holds Tryz.pinned (OpenSpec.ofChange headerChecksWrong)

/-- 'spindlelaw10.HeaderReads': WHATEVER THE INPUT: true; the input reads as it did. -/
def headerReadsSpec : ChangeSpec := { name := "headerReads", fn := fun _ => fun
  | [d1, d2, d3, d4, d5, d6] => { results := [.lit (.bool true)], args := [d1, d2, d3, d4, d5, d6] }
  | _ => none }
def headerReadsRow : OpenClaim := { program := "ytojahafmfcfpaaagreatdoor", sum := "a5c9be0d62baf74b3d7fae87347172b35349ed4973d85f506d023c8e2e9a7d40", func := "spindle/spindlelaw10.HeaderReads", spec := "headerReads", unfollowed := true, recurses := true, named := ["spindle/marks.modifications", "spindle/marks.markings"], apart := false, laid := [("spindle/marks.modifications", laid_spindle_marks_modifications), ("spindle/marks.markings", laid_spindle_marks_markings)] }
def HeaderReadsSaid : Prop := headerReadsRow.holds Tryz.pinned (OpenSpec.ofChange headerReadsSpec)

/-- ITS FALSE NEIGHBOUR: 'it returns false'. Refute it at one input. -/
def headerReadsWrong : ChangeSpec := { name := "headerReads", fn := fun _ => fun
  | [d1, d2, d3, d4, d5, d6] => { results := [.lit (.bool false)], args := [d1, d2, d3, d4, d5, d6] }
  | _ => none }
def HeaderReadsWrongFalsely : Prop := headerReadsRow.holds Tryz.pinned (OpenSpec.ofChange headerReadsWrong)

/-- 'spindlelaw10.HeaderExamples': WHATEVER THE INPUT: true; the input reads as it did. -/
def headerExamplesSpec : ChangeSpec := { name := "headerExamples", fn := fun _ => fun
  | [] => { results := [.lit (.bool true)], args := [] }
  | _ => none }
def headerExamplesRow : OpenClaim := { program := "ytojahafmfcfpaaagreatdoor", sum := "a5c9be0d62baf74b3d7fae87347172b35349ed4973d85f506d023c8e2e9a7d40", func := "spindle/spindlelaw10.HeaderExamples", spec := "headerExamples", unfollowed := true, recurses := true, named := ["spindle/marks.modifications", "spindle/marks.markings"], apart := false, laid := [("spindle/marks.modifications", laid_spindle_marks_modifications), ("spindle/marks.markings", laid_spindle_marks_markings)] }
def HeaderExamplesSaid : Prop := headerExamplesRow.holds Tryz.pinned (OpenSpec.ofChange headerExamplesSpec)

/-- ITS FALSE NEIGHBOUR: 'it returns false'. Refute it at one input. -/
def headerExamplesWrong : ChangeSpec := { name := "headerExamples", fn := fun _ => fun
  | [] => { results := [.lit (.bool false)], args := [] }
  | _ => none }
def HeaderExamplesWrongFalsely : Prop := headerExamplesRow.holds Tryz.pinned (OpenSpec.ofChange headerExamplesWrong)

/-- 'spindlelaw10.HeaderBack': WHATEVER THE INPUT: true; the input reads as it did. -/
def headerBackSpec : ChangeSpec := { name := "headerBack", fn := fun _ => fun
  | [d1, d2, d3, d4] => { results := [.lit (.bool true)], args := [d1, d2, d3, d4] }
  | _ => none }
def headerBackRow : OpenClaim := { program := "ytojahafmfcfpaaagreatdoor", sum := "a5c9be0d62baf74b3d7fae87347172b35349ed4973d85f506d023c8e2e9a7d40", func := "spindle/spindlelaw10.HeaderBack", spec := "headerBack", unfollowed := true, recurses := true, named := ["spindle/marks.modifications", "spindle/marks.markings"], apart := false, laid := [("spindle/marks.modifications", laid_spindle_marks_modifications), ("spindle/marks.markings", laid_spindle_marks_markings)] }
def HeaderBackSaid : Prop := headerBackRow.holds Tryz.pinned (OpenSpec.ofChange headerBackSpec)

/-- ITS FALSE NEIGHBOUR: 'it returns false'. Refute it at one input. -/
def headerBackWrong : ChangeSpec := { name := "headerBack", fn := fun _ => fun
  | [d1, d2, d3, d4] => { results := [.lit (.bool false)], args := [d1, d2, d3, d4] }
  | _ => none }
def HeaderBackWrongFalsely : Prop := headerBackRow.holds Tryz.pinned (OpenSpec.ofChange headerBackWrong)

/-- 'spindlelaw10.HeaderOnly': WHATEVER THE INPUT: true; the input reads as it did. -/
def headerOnlySpec : ChangeSpec := { name := "headerOnly", fn := fun _ => fun
  | [d1, d2, d3, d4] => { results := [.lit (.bool true)], args := [d1, d2, d3, d4] }
  | _ => none }
def headerOnlyRow : OpenClaim := { program := "ytojahafmfcfpaaagreatdoor", sum := "a5c9be0d62baf74b3d7fae87347172b35349ed4973d85f506d023c8e2e9a7d40", func := "spindle/spindlelaw10.HeaderOnly", spec := "headerOnly", unfollowed := true, recurses := true, named := ["spindle/marks.modifications", "spindle/marks.markings"], apart := false, laid := [("spindle/marks.modifications", laid_spindle_marks_modifications), ("spindle/marks.markings", laid_spindle_marks_markings)] }
def HeaderOnlySaid : Prop := headerOnlyRow.holds Tryz.pinned (OpenSpec.ofChange headerOnlySpec)

/-- ITS FALSE NEIGHBOUR: 'it returns false'. Refute it at one input. -/
def headerOnlyWrong : ChangeSpec := { name := "headerOnly", fn := fun _ => fun
  | [d1, d2, d3, d4] => { results := [.lit (.bool false)], args := [d1, d2, d3, d4] }
  | _ => none }
def HeaderOnlyWrongFalsely : Prop := headerOnlyRow.holds Tryz.pinned (OpenSpec.ofChange headerOnlyWrong)

/- THE SECOND FORM. 'bulk': how many values and letters a reading holds, each counted each time it is reached (what is shared counts as often as it is met; a slice's spare places count too). A statement '..UptoSaid' is the law's where the arguments, and the package variables that the reading takes, are together of bulk at most 1048576: NARROWER than '..Said'. Prove '..Said' where nothing that the law and all that it calls make is longer than what came in: it says more and counts as full. Else prove '..UptoSaid'. A law counts once. -/
mutual
def uptoBulk {H : Type} : DataW H → Nat
  | .lit (.string bytes) => bytes.length + 1
  | .lit _ => 1
  | .nil => 1
  | .ptr d => uptoBulk d + 1
  | .slice elems spare => uptoBulkAll elems + uptoBulkAll spare + 1
  | .agg parts => uptoBulkAll parts + 1
  | .iface _ d => uptoBulk d + 1
  | .map entries => uptoBulkEntries entries + 1
  | .held _ => 1
def uptoBulkAll {H : Type} : List (DataW H) → Nat
  | [] => 0
  | d :: r => uptoBulk d + uptoBulkAll r
def uptoBulkEntries {H : Type} : List (Lit × DataW H) → Nat
  | [] => 0
  | x :: r => uptoBulkEntry x + uptoBulkEntries r
def uptoBulkEntry {H : Type} : Lit × DataW H → Nat
  | (.string bytes, d) => bytes.length + uptoBulk d + 1
  | (_, d) => uptoBulk d + 1
 end
def uptoSmall : (H : Type) → List (DataW H) → Bool := fun _ ds => decide (uptoBulkAll ds ≤ 1048576)
def OpenSpec.upto (s : _root_.Go.ChangeSpec) : _root_.Go.OpenSpec := { _root_.Go.OpenSpec.ofChange s with cond := some uptoSmall }

/-- 'spindlelaw10.HeaderChecks', WHERE WHAT IT READS IS OF BULK AT MOST 1048576: true; the input reads as it did. -/
def headerChecksUptoRow : OpenClaim := { program := "ytojahafmfcfpaaagreatdoor", sum := "a5c9be0d62baf74b3d7fae87347172b35349ed4973d85f506d023c8e2e9a7d40", func := "spindle/spindlelaw10.HeaderChecks", spec := "headerChecks", unfollowed := true, recurses := true, named := ["spindle/marks.modifications", "spindle/marks.markings"], apart := false, laid := [("spindle/marks.modifications", laid_spindle_marks_modifications), ("spindle/marks.markings", laid_spindle_marks_markings)], narrowed := true }
def HeaderChecksUptoSaid : Prop := headerChecksUptoRow.holds Tryz.pinned (OpenSpec.upto headerChecksSpec)

/-- 'spindlelaw10.HeaderReads', WHERE WHAT IT READS IS OF BULK AT MOST 1048576: true; the input reads as it did. -/
def headerReadsUptoRow : OpenClaim := { program := "ytojahafmfcfpaaagreatdoor", sum := "a5c9be0d62baf74b3d7fae87347172b35349ed4973d85f506d023c8e2e9a7d40", func := "spindle/spindlelaw10.HeaderReads", spec := "headerReads", unfollowed := true, recurses := true, named := ["spindle/marks.modifications", "spindle/marks.markings"], apart := false, laid := [("spindle/marks.modifications", laid_spindle_marks_modifications), ("spindle/marks.markings", laid_spindle_marks_markings)], narrowed := true }
def HeaderReadsUptoSaid : Prop := headerReadsUptoRow.holds Tryz.pinned (OpenSpec.upto headerReadsSpec)

/-- 'spindlelaw10.HeaderExamples', WHERE WHAT IT READS IS OF BULK AT MOST 1048576: true; the input reads as it did. -/
def headerExamplesUptoRow : OpenClaim := { program := "ytojahafmfcfpaaagreatdoor", sum := "a5c9be0d62baf74b3d7fae87347172b35349ed4973d85f506d023c8e2e9a7d40", func := "spindle/spindlelaw10.HeaderExamples", spec := "headerExamples", unfollowed := true, recurses := true, named := ["spindle/marks.modifications", "spindle/marks.markings"], apart := false, laid := [("spindle/marks.modifications", laid_spindle_marks_modifications), ("spindle/marks.markings", laid_spindle_marks_markings)], narrowed := true }
def HeaderExamplesUptoSaid : Prop := headerExamplesUptoRow.holds Tryz.pinned (OpenSpec.upto headerExamplesSpec)

/-- 'spindlelaw10.HeaderBack', WHERE WHAT IT READS IS OF BULK AT MOST 1048576: true; the input reads as it did. -/
def headerBackUptoRow : OpenClaim := { program := "ytojahafmfcfpaaagreatdoor", sum := "a5c9be0d62baf74b3d7fae87347172b35349ed4973d85f506d023c8e2e9a7d40", func := "spindle/spindlelaw10.HeaderBack", spec := "headerBack", unfollowed := true, recurses := true, named := ["spindle/marks.modifications", "spindle/marks.markings"], apart := false, laid := [("spindle/marks.modifications", laid_spindle_marks_modifications), ("spindle/marks.markings", laid_spindle_marks_markings)], narrowed := true }
def HeaderBackUptoSaid : Prop := headerBackUptoRow.holds Tryz.pinned (OpenSpec.upto headerBackSpec)

/-- 'spindlelaw10.HeaderOnly', WHERE WHAT IT READS IS OF BULK AT MOST 1048576: true; the input reads as it did. -/
def headerOnlyUptoRow : OpenClaim := { program := "ytojahafmfcfpaaagreatdoor", sum := "a5c9be0d62baf74b3d7fae87347172b35349ed4973d85f506d023c8e2e9a7d40", func := "spindle/spindlelaw10.HeaderOnly", spec := "headerOnly", unfollowed := true, recurses := true, named := ["spindle/marks.modifications", "spindle/marks.markings"], apart := false, laid := [("spindle/marks.modifications", laid_spindle_marks_modifications), ("spindle/marks.markings", laid_spindle_marks_markings)], narrowed := true }
def HeaderOnlyUptoSaid : Prop := headerOnlyUptoRow.holds Tryz.pinned (OpenSpec.upto headerOnlySpec)

end Rows
end Go.Proofs.YtojahafmfcfpaaaGreatDoor
