/-
  NARROWER THAN 'FOR EVERY INPUT', by the rows' own cells (each row's printed sentence says how): MarksChecks: laid · MarksReads: laid · MarksExamples: laid · MarksBack: laid · MarksApart: laid · MarksRefuses: laid.
  DERIVED. THE GIVEN ROWS OF THIS SEAT. 6 by the template 'for every input the law returns true; each argument reads behind the call as it read before'; 0 by the template 'total and deterministic' (their statements: YtdkmeldcpamnnaaDoorTotals.lean).
  GIVEN WITH THE SEED: the statements are not yours to turn. If you find one false, say at which input.
  Laid BY PROGRAM, IN A SANDBOX (cutbox-rows.mjs): the forced cells as the released guide's own fill.sh prints them over the translation 1eb862caf4b8c9af… (all of the seat's roots in one cut). By AI agents, Wed Nov 11 2026. No macro, syntax, notation, axiom, sorry.
-/
import Derived.Test.YtdkmeldcpamnnaaDoorChecked
import GoSem.Claim
import GoSem.ClaimJoined
import GoSem.ClaimMapViews
import Derived.JoinedTies
import Derived.KernelRfl
namespace Go.Proofs.YtdkmeldcpamnnaaDoor
/- THE CELL 'sum', in the pinned program and in every row, IS THE sha256 OF THE DUMP (.gsa) THAT YtdkmeldcpamnnaaDoorProg.lean LOADS. Nothing in Lean hashes anything: it is a label: what it is worth is what the hold of that sum in a sandbox is worth. -/
noncomputable def Tryd.pinned : Pinned := { name := "ytdkmeldcpamnnaadoor", sum := "1eb862caf4b8c9aff6d2da1ccf177ab3d4c160a596a14d776ae2eac66377aabc", checked := Tryd.checked }
namespace Rows
def none {H : Type} : Left H := { results := [], args := [] }

/- WHAT THE LISTED PACKAGE-LEVEL VARIABLES READ AS WHEN THE CALL BEGINS. Each datum BY PROGRAM (the guide's laid-datum.mjs) off the statement by which the dump's own 'gosem.cut.vars' lays the variable. In a bare row this is a premise. The card (YtdkmeldcpamnnaaDoorCards.lean) ties it to the program's text. -/
def laid_spindle_marks_modifications {H : Type} : DataW H := .agg [.lit (.int .u64 3), .agg [.lit (.int .i64 1), .lit (.int .i64 1), .lit (.int .i64 1), .lit (.int .i64 (-1)), .lit (.int .i64 (-1)), .lit (.int .i64 (-1)), .lit (.int .i64 (-1))]]
def laid_spindle_marks_markings {H : Type} : DataW H := .agg [.lit (.int .u64 0), .agg [.lit (.int .i64 (-1)), .lit (.int .i64 1), .lit (.int .i64 1), .lit (.int .i64 2), .lit (.int .i64 1), .lit (.int .i64 0), .lit (.int .i64 1)]]

/-- 'spindlelaw09.MarksChecks': WHATEVER THE INPUT: true; the input reads as it did. -/
def marksChecksSpec : ChangeSpec := { name := "marksChecks", fn := fun _ => fun
  | [d1, d2] => { results := [.lit (.bool true)], args := [d1, d2] }
  | _ => none }
def marksChecksRow : OpenClaim := { program := "ytdkmeldcpamnnaadoor", sum := "1eb862caf4b8c9aff6d2da1ccf177ab3d4c160a596a14d776ae2eac66377aabc", func := "spindle/spindlelaw09.MarksChecks", spec := "marksChecks", unfollowed := true, recurses := true, named := ["spindle/marks.markings", "spindle/marks.modifications"], apart := false, laid := [("spindle/marks.modifications", laid_spindle_marks_modifications), ("spindle/marks.markings", laid_spindle_marks_markings)] }
def MarksChecksSaid : Prop := marksChecksRow.holds Tryd.pinned (OpenSpec.ofChange marksChecksSpec)

/-- ITS FALSE NEIGHBOUR: 'it returns false'. Refute it at one input. -/
def marksChecksWrong : ChangeSpec := { name := "marksChecks", fn := fun _ => fun
  | [d1, d2] => { results := [.lit (.bool false)], args := [d1, d2] }
  | _ => none }
def MarksChecksWrongFalsely : Prop := marksChecksRow.holds Tryd.pinned (OpenSpec.ofChange marksChecksWrong)

/-- 'spindlelaw09.MarksReads': WHATEVER THE INPUT: true; the input reads as it did. -/
def marksReadsSpec : ChangeSpec := { name := "marksReads", fn := fun _ => fun
  | [d1, d2] => { results := [.lit (.bool true)], args := [d1, d2] }
  | _ => none }
def marksReadsRow : OpenClaim := { program := "ytdkmeldcpamnnaadoor", sum := "1eb862caf4b8c9aff6d2da1ccf177ab3d4c160a596a14d776ae2eac66377aabc", func := "spindle/spindlelaw09.MarksReads", spec := "marksReads", unfollowed := true, recurses := true, named := ["spindle/marks.markings", "spindle/marks.modifications"], apart := false, laid := [("spindle/marks.modifications", laid_spindle_marks_modifications), ("spindle/marks.markings", laid_spindle_marks_markings)] }
def MarksReadsSaid : Prop := marksReadsRow.holds Tryd.pinned (OpenSpec.ofChange marksReadsSpec)

/-- ITS FALSE NEIGHBOUR: 'it returns false'. Refute it at one input. -/
def marksReadsWrong : ChangeSpec := { name := "marksReads", fn := fun _ => fun
  | [d1, d2] => { results := [.lit (.bool false)], args := [d1, d2] }
  | _ => none }
def MarksReadsWrongFalsely : Prop := marksReadsRow.holds Tryd.pinned (OpenSpec.ofChange marksReadsWrong)

/-- 'spindlelaw09.MarksExamples': WHATEVER THE INPUT: true; the input reads as it did. -/
def marksExamplesSpec : ChangeSpec := { name := "marksExamples", fn := fun _ => fun
  | [] => { results := [.lit (.bool true)], args := [] }
  | _ => none }
def marksExamplesRow : OpenClaim := { program := "ytdkmeldcpamnnaadoor", sum := "1eb862caf4b8c9aff6d2da1ccf177ab3d4c160a596a14d776ae2eac66377aabc", func := "spindle/spindlelaw09.MarksExamples", spec := "marksExamples", unfollowed := true, recurses := true, named := ["spindle/marks.markings", "spindle/marks.modifications"], apart := false, laid := [("spindle/marks.modifications", laid_spindle_marks_modifications), ("spindle/marks.markings", laid_spindle_marks_markings)] }
def MarksExamplesSaid : Prop := marksExamplesRow.holds Tryd.pinned (OpenSpec.ofChange marksExamplesSpec)

/-- ITS FALSE NEIGHBOUR: 'it returns false'. Refute it at one input. -/
def marksExamplesWrong : ChangeSpec := { name := "marksExamples", fn := fun _ => fun
  | [] => { results := [.lit (.bool false)], args := [] }
  | _ => none }
def MarksExamplesWrongFalsely : Prop := marksExamplesRow.holds Tryd.pinned (OpenSpec.ofChange marksExamplesWrong)

/-- 'spindlelaw09.MarksBack': WHATEVER THE INPUT: true; the input reads as it did. -/
def marksBackSpec : ChangeSpec := { name := "marksBack", fn := fun _ => fun
  | [d1, d2, d3, d4] => { results := [.lit (.bool true)], args := [d1, d2, d3, d4] }
  | _ => none }
def marksBackRow : OpenClaim := { program := "ytdkmeldcpamnnaadoor", sum := "1eb862caf4b8c9aff6d2da1ccf177ab3d4c160a596a14d776ae2eac66377aabc", func := "spindle/spindlelaw09.MarksBack", spec := "marksBack", unfollowed := true, recurses := true, named := ["spindle/marks.markings", "spindle/marks.modifications"], apart := false, laid := [("spindle/marks.modifications", laid_spindle_marks_modifications), ("spindle/marks.markings", laid_spindle_marks_markings)] }
def MarksBackSaid : Prop := marksBackRow.holds Tryd.pinned (OpenSpec.ofChange marksBackSpec)

/-- ITS FALSE NEIGHBOUR: 'it returns false'. Refute it at one input. -/
def marksBackWrong : ChangeSpec := { name := "marksBack", fn := fun _ => fun
  | [d1, d2, d3, d4] => { results := [.lit (.bool false)], args := [d1, d2, d3, d4] }
  | _ => none }
def MarksBackWrongFalsely : Prop := marksBackRow.holds Tryd.pinned (OpenSpec.ofChange marksBackWrong)

/-- 'spindlelaw09.MarksApart': WHATEVER THE INPUT: true; the input reads as it did. -/
def marksApartSpec : ChangeSpec := { name := "marksApart", fn := fun _ => fun
  | [d1, d2, d3, d4] => { results := [.lit (.bool true)], args := [d1, d2, d3, d4] }
  | _ => none }
def marksApartRow : OpenClaim := { program := "ytdkmeldcpamnnaadoor", sum := "1eb862caf4b8c9aff6d2da1ccf177ab3d4c160a596a14d776ae2eac66377aabc", func := "spindle/spindlelaw09.MarksApart", spec := "marksApart", unfollowed := true, recurses := true, named := ["spindle/marks.markings", "spindle/marks.modifications"], apart := false, laid := [("spindle/marks.modifications", laid_spindle_marks_modifications), ("spindle/marks.markings", laid_spindle_marks_markings)] }
def MarksApartSaid : Prop := marksApartRow.holds Tryd.pinned (OpenSpec.ofChange marksApartSpec)

/-- ITS FALSE NEIGHBOUR: 'it returns false'. Refute it at one input. -/
def marksApartWrong : ChangeSpec := { name := "marksApart", fn := fun _ => fun
  | [d1, d2, d3, d4] => { results := [.lit (.bool false)], args := [d1, d2, d3, d4] }
  | _ => none }
def MarksApartWrongFalsely : Prop := marksApartRow.holds Tryd.pinned (OpenSpec.ofChange marksApartWrong)

/-- 'spindlelaw09.MarksRefuses': WHATEVER THE INPUT: true; the input reads as it did. -/
def marksRefusesSpec : ChangeSpec := { name := "marksRefuses", fn := fun _ => fun
  | [d1, d2, d3, d4] => { results := [.lit (.bool true)], args := [d1, d2, d3, d4] }
  | _ => none }
def marksRefusesRow : OpenClaim := { program := "ytdkmeldcpamnnaadoor", sum := "1eb862caf4b8c9aff6d2da1ccf177ab3d4c160a596a14d776ae2eac66377aabc", func := "spindle/spindlelaw09.MarksRefuses", spec := "marksRefuses", unfollowed := true, recurses := true, named := ["spindle/marks.markings", "spindle/marks.modifications"], apart := false, laid := [("spindle/marks.modifications", laid_spindle_marks_modifications), ("spindle/marks.markings", laid_spindle_marks_markings)] }
def MarksRefusesSaid : Prop := marksRefusesRow.holds Tryd.pinned (OpenSpec.ofChange marksRefusesSpec)

/-- ITS FALSE NEIGHBOUR: 'it returns false'. Refute it at one input. -/
def marksRefusesWrong : ChangeSpec := { name := "marksRefuses", fn := fun _ => fun
  | [d1, d2, d3, d4] => { results := [.lit (.bool false)], args := [d1, d2, d3, d4] }
  | _ => none }
def MarksRefusesWrongFalsely : Prop := marksRefusesRow.holds Tryd.pinned (OpenSpec.ofChange marksRefusesWrong)

/- THE SECOND FORM. 'bulk': how many values and letters a reading holds, each counted each time it is reached (what is shared counts as often as it is met; a slice's spare places count too). A statement '..UptoSaid' is the law's where the arguments, and the package variables that the reading takes, are together of bulk at most 1048576: NARROWER than '..Said'. Prove '..Said' where nothing that the law and all that it calls make is longer than what came in: it says more and counts as full. Else prove '..UptoSaid'. A law counts once. -/
mutual
def uptoBulk {H : Type} : DataW H → Nat
  | .lit (.string bytes) => bytes.length + 1
  | .lit _ => 1
  | .nil => 1
  | .ptr d => uptoBulk d + 1
  | .slice elems spare => uptoBulkAll elems + uptoBulkAll spare + 1
  | .agg parts => uptoBulkAll parts + 1
  | .iface _ d => uptoBulk d + 1
  | .map entries => uptoBulkEntries entries + 1
  | .held _ => 1
def uptoBulkAll {H : Type} : List (DataW H) → Nat
  | [] => 0
  | d :: r => uptoBulk d + uptoBulkAll r
def uptoBulkEntries {H : Type} : List (Lit × DataW H) → Nat
  | [] => 0
  | x :: r => uptoBulkEntry x + uptoBulkEntries r
def uptoBulkEntry {H : Type} : Lit × DataW H → Nat
  | (.string bytes, d) => bytes.length + uptoBulk d + 1
  | (_, d) => uptoBulk d + 1
 end
def uptoSmall : (H : Type) → List (DataW H) → Bool := fun _ ds => decide (uptoBulkAll ds ≤ 1048576)
def OpenSpec.upto (s : _root_.Go.ChangeSpec) : _root_.Go.OpenSpec := { _root_.Go.OpenSpec.ofChange s with cond := some uptoSmall }

/-- 'spindlelaw09.MarksChecks', WHERE WHAT IT READS IS OF BULK AT MOST 1048576: true; the input reads as it did. -/
def marksChecksUptoRow : OpenClaim := { program := "ytdkmeldcpamnnaadoor", sum := "1eb862caf4b8c9aff6d2da1ccf177ab3d4c160a596a14d776ae2eac66377aabc", func := "spindle/spindlelaw09.MarksChecks", spec := "marksChecks", unfollowed := true, recurses := true, named := ["spindle/marks.markings", "spindle/marks.modifications"], apart := false, laid := [("spindle/marks.modifications", laid_spindle_marks_modifications), ("spindle/marks.markings", laid_spindle_marks_markings)], narrowed := true }
def MarksChecksUptoSaid : Prop := marksChecksUptoRow.holds Tryd.pinned (OpenSpec.upto marksChecksSpec)

/-- 'spindlelaw09.MarksReads', WHERE WHAT IT READS IS OF BULK AT MOST 1048576: true; the input reads as it did. -/
def marksReadsUptoRow : OpenClaim := { program := "ytdkmeldcpamnnaadoor", sum := "1eb862caf4b8c9aff6d2da1ccf177ab3d4c160a596a14d776ae2eac66377aabc", func := "spindle/spindlelaw09.MarksReads", spec := "marksReads", unfollowed := true, recurses := true, named := ["spindle/marks.markings", "spindle/marks.modifications"], apart := false, laid := [("spindle/marks.modifications", laid_spindle_marks_modifications), ("spindle/marks.markings", laid_spindle_marks_markings)], narrowed := true }
def MarksReadsUptoSaid : Prop := marksReadsUptoRow.holds Tryd.pinned (OpenSpec.upto marksReadsSpec)

/-- 'spindlelaw09.MarksExamples', WHERE WHAT IT READS IS OF BULK AT MOST 1048576: true; the input reads as it did. -/
def marksExamplesUptoRow : OpenClaim := { program := "ytdkmeldcpamnnaadoor", sum := "1eb862caf4b8c9aff6d2da1ccf177ab3d4c160a596a14d776ae2eac66377aabc", func := "spindle/spindlelaw09.MarksExamples", spec := "marksExamples", unfollowed := true, recurses := true, named := ["spindle/marks.markings", "spindle/marks.modifications"], apart := false, laid := [("spindle/marks.modifications", laid_spindle_marks_modifications), ("spindle/marks.markings", laid_spindle_marks_markings)], narrowed := true }
def MarksExamplesUptoSaid : Prop := marksExamplesUptoRow.holds Tryd.pinned (OpenSpec.upto marksExamplesSpec)

/-- 'spindlelaw09.MarksBack', WHERE WHAT IT READS IS OF BULK AT MOST 1048576: true; the input reads as it did. -/
def marksBackUptoRow : OpenClaim := { program := "ytdkmeldcpamnnaadoor", sum := "1eb862caf4b8c9aff6d2da1ccf177ab3d4c160a596a14d776ae2eac66377aabc", func := "spindle/spindlelaw09.MarksBack", spec := "marksBack", unfollowed := true, recurses := true, named := ["spindle/marks.markings", "spindle/marks.modifications"], apart := false, laid := [("spindle/marks.modifications", laid_spindle_marks_modifications), ("spindle/marks.markings", laid_spindle_marks_markings)], narrowed := true }
def MarksBackUptoSaid : Prop := marksBackUptoRow.holds Tryd.pinned (OpenSpec.upto marksBackSpec)

/-- 'spindlelaw09.MarksApart', WHERE WHAT IT READS IS OF BULK AT MOST 1048576: true; the input reads as it did. -/
def marksApartUptoRow : OpenClaim := { program := "ytdkmeldcpamnnaadoor", sum := "1eb862caf4b8c9aff6d2da1ccf177ab3d4c160a596a14d776ae2eac66377aabc", func := "spindle/spindlelaw09.MarksApart", spec := "marksApart", unfollowed := true, recurses := true, named := ["spindle/marks.markings", "spindle/marks.modifications"], apart := false, laid := [("spindle/marks.modifications", laid_spindle_marks_modifications), ("spindle/marks.markings", laid_spindle_marks_markings)], narrowed := true }
def MarksApartUptoSaid : Prop := marksApartUptoRow.holds Tryd.pinned (OpenSpec.upto marksApartSpec)

/-- 'spindlelaw09.MarksRefuses', WHERE WHAT IT READS IS OF BULK AT MOST 1048576: true; the input reads as it did. -/
def marksRefusesUptoRow : OpenClaim := { program := "ytdkmeldcpamnnaadoor", sum := "1eb862caf4b8c9aff6d2da1ccf177ab3d4c160a596a14d776ae2eac66377aabc", func := "spindle/spindlelaw09.MarksRefuses", spec := "marksRefuses", unfollowed := true, recurses := true, named := ["spindle/marks.markings", "spindle/marks.modifications"], apart := false, laid := [("spindle/marks.modifications", laid_spindle_marks_modifications), ("spindle/marks.markings", laid_spindle_marks_markings)], narrowed := true }
def MarksRefusesUptoSaid : Prop := marksRefusesUptoRow.holds Tryd.pinned (OpenSpec.upto marksRefusesSpec)

end Rows
end Go.Proofs.YtdkmeldcpamnnaaDoor
