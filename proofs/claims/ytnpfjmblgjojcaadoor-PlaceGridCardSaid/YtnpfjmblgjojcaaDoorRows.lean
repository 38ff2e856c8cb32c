/-
  NARROWER THAN 'FOR EVERY INPUT', by the rows' own cells (each row's printed sentence says how): PlaceNames: laid · PlaceMatches: laid · PlaceNears: laid · PlaceInverse: laid · PlaceRounds: laid · PlaceGrid: laid.
  DERIVED. THE GIVEN ROWS OF THIS SEAT. 6 by the template 'for every input the law returns true; each argument reads behind the call as it read before'; 0 by the template 'total and deterministic' (their statements: YtnpfjmblgjojcaaDoorTotals.lean).
  GIVEN WITH THE SEED: the statements are not yours to turn. If you find one false, say at which input.
  Laid BY PROGRAM, IN A SANDBOX (cutbox-rows.mjs): the forced cells as the released guide's own fill.sh prints them over the translation 30004196808b216f… (all of the seat's roots in one cut). By AI agents, Wed Nov 11 2026. No macro, syntax, notation, axiom, sorry.
-/
import Derived.Test.YtnpfjmblgjojcaaDoorChecked
import GoSem.Claim
import GoSem.ClaimJoined
import GoSem.ClaimMapViews
import Derived.JoinedTies
import Derived.KernelRfl
namespace Go.Proofs.YtnpfjmblgjojcaaDoor
/- THE CELL 'sum', in the pinned program and in every row, IS THE sha256 OF THE DUMP (.gsa) THAT YtnpfjmblgjojcaaDoorProg.lean LOADS. Nothing in Lean hashes anything: it is a label: what it is worth is what the hold of that sum in a sandbox is worth. -/
noncomputable def Tryd.pinned : Pinned := { name := "ytnpfjmblgjojcaadoor", sum := "30004196808b216f5b1df60a3cec630e04cab1d110b202d466597ab0561e8c5c", checked := Tryd.checked }
namespace Rows
def none {H : Type} : Left H := { results := [], args := [] }

/- WHAT THE LISTED PACKAGE-LEVEL VARIABLES READ AS WHEN THE CALL BEGINS. Each datum BY PROGRAM (the guide's laid-datum.mjs) off the statement by which the dump's own 'gosem.cut.vars' lays the variable. In a bare row this is a premise. The card (YtnpfjmblgjojcaaDoorCards.lean) ties it to the program's text. -/
def laid_spindle_place_columns {H : Type} : DataW H := .agg [.lit (.int .i64 0), .lit (.int .i64 1), .lit (.int .i64 0), .lit (.int .i64 1), .lit (.int .i64 2), .lit (.int .i64 3), .lit (.int .i64 2), .lit (.int .i64 3), .lit (.int .i64 0), .lit (.int .i64 1), .lit (.int .i64 0), .lit (.int .i64 1), .lit (.int .i64 2), .lit (.int .i64 3), .lit (.int .i64 2), .lit (.int .i64 3)]
def laid_spindle_place_rows {H : Type} : DataW H := .agg [.lit (.int .i64 0), .lit (.int .i64 0), .lit (.int .i64 1), .lit (.int .i64 1), .lit (.int .i64 0), .lit (.int .i64 0), .lit (.int .i64 1), .lit (.int .i64 1), .lit (.int .i64 2), .lit (.int .i64 2), .lit (.int .i64 3), .lit (.int .i64 3), .lit (.int .i64 2), .lit (.int .i64 2), .lit (.int .i64 3), .lit (.int .i64 3)]

/-- 'spindlelaw11.PlaceNames': WHATEVER THE INPUT: true; the input reads as it did. -/
def placeNamesSpec : ChangeSpec := { name := "placeNames", fn := fun _ => fun
  | [] => { results := [.lit (.bool true)], args := [] }
  | _ => none }
def placeNamesRow : OpenClaim := { program := "ytnpfjmblgjojcaadoor", sum := "30004196808b216f5b1df60a3cec630e04cab1d110b202d466597ab0561e8c5c", func := "spindle/spindlelaw11.PlaceNames", spec := "placeNames", unfollowed := true, recurses := true, named := ["spindle/place.columns", "spindle/place.rows"], plainKeys := false, apart := false, laid := [("spindle/place.columns", laid_spindle_place_columns), ("spindle/place.rows", laid_spindle_place_rows)] }
def PlaceNamesSaid : Prop := placeNamesRow.holds Tryd.pinned (OpenSpec.ofChange placeNamesSpec)

/-- ITS FALSE NEIGHBOUR: 'it returns false'. Refute it at one input. -/
def placeNamesWrong : ChangeSpec := { name := "placeNames", fn := fun _ => fun
  | [] => { results := [.lit (.bool false)], args := [] }
  | _ => none }
def PlaceNamesWrongFalsely : Prop := placeNamesRow.holds Tryd.pinned (OpenSpec.ofChange placeNamesWrong)

/-- 'spindlelaw11.PlaceMatches': WHATEVER THE INPUT: true; the input reads as it did. -/
def placeMatchesSpec : ChangeSpec := { name := "placeMatches", fn := fun _ => fun
  | [d1, d2, d3] => { results := [.lit (.bool true)], args := [d1, d2, d3] }
  | _ => none }
def placeMatchesRow : OpenClaim := { program := "ytnpfjmblgjojcaadoor", sum := "30004196808b216f5b1df60a3cec630e04cab1d110b202d466597ab0561e8c5c", func := "spindle/spindlelaw11.PlaceMatches", spec := "placeMatches", named := ["spindle/place.columns", "spindle/place.rows"], plainKeys := false, apart := false, laid := [("spindle/place.columns", laid_spindle_place_columns), ("spindle/place.rows", laid_spindle_place_rows)] }
def PlaceMatchesSaid : Prop := placeMatchesRow.holds Tryd.pinned (OpenSpec.ofChange placeMatchesSpec)

/-- ITS FALSE NEIGHBOUR: 'it returns false'. Refute it at one input. -/
def placeMatchesWrong : ChangeSpec := { name := "placeMatches", fn := fun _ => fun
  | [d1, d2, d3] => { results := [.lit (.bool false)], args := [d1, d2, d3] }
  | _ => none }
def PlaceMatchesWrongFalsely : Prop := placeMatchesRow.holds Tryd.pinned (OpenSpec.ofChange placeMatchesWrong)

/-- 'spindlelaw11.PlaceNears': WHATEVER THE INPUT: true; the input reads as it did. -/
def placeNearsSpec : ChangeSpec := { name := "placeNears", fn := fun _ => fun
  | [d1, d2, d3] => { results := [.lit (.bool true)], args := [d1, d2, d3] }
  | _ => none }
def placeNearsRow : OpenClaim := { program := "ytnpfjmblgjojcaadoor", sum := "30004196808b216f5b1df60a3cec630e04cab1d110b202d466597ab0561e8c5c", func := "spindle/spindlelaw11.PlaceNears", spec := "placeNears", named := ["spindle/place.columns", "spindle/place.rows"], plainKeys := false, apart := false, laid := [("spindle/place.columns", laid_spindle_place_columns), ("spindle/place.rows", laid_spindle_place_rows)] }
def PlaceNearsSaid : Prop := placeNearsRow.holds Tryd.pinned (OpenSpec.ofChange placeNearsSpec)

/-- ITS FALSE NEIGHBOUR: 'it returns false'. Refute it at one input. -/
def placeNearsWrong : ChangeSpec := { name := "placeNears", fn := fun _ => fun
  | [d1, d2, d3] => { results := [.lit (.bool false)], args := [d1, d2, d3] }
  | _ => none }
def PlaceNearsWrongFalsely : Prop := placeNearsRow.holds Tryd.pinned (OpenSpec.ofChange placeNearsWrong)

/-- 'spindlelaw11.PlaceInverse': WHATEVER THE INPUT: true; the input reads as it did. -/
def placeInverseSpec : ChangeSpec := { name := "placeInverse", fn := fun _ => fun
  | [d1, d2, d3] => { results := [.lit (.bool true)], args := [d1, d2, d3] }
  | _ => none }
def placeInverseRow : OpenClaim := { program := "ytnpfjmblgjojcaadoor", sum := "30004196808b216f5b1df60a3cec630e04cab1d110b202d466597ab0561e8c5c", func := "spindle/spindlelaw11.PlaceInverse", spec := "placeInverse", named := ["spindle/place.columns", "spindle/place.rows"], plainKeys := false, apart := false, laid := [("spindle/place.columns", laid_spindle_place_columns), ("spindle/place.rows", laid_spindle_place_rows)] }
def PlaceInverseSaid : Prop := placeInverseRow.holds Tryd.pinned (OpenSpec.ofChange placeInverseSpec)

/-- ITS FALSE NEIGHBOUR: 'it returns false'. Refute it at one input. -/
def placeInverseWrong : ChangeSpec := { name := "placeInverse", fn := fun _ => fun
  | [d1, d2, d3] => { results := [.lit (.bool false)], args := [d1, d2, d3] }
  | _ => none }
def PlaceInverseWrongFalsely : Prop := placeInverseRow.holds Tryd.pinned (OpenSpec.ofChange placeInverseWrong)

/-- 'spindlelaw11.PlaceRounds': WHATEVER THE INPUT: true; the input reads as it did. -/
def placeRoundsSpec : ChangeSpec := { name := "placeRounds", fn := fun _ => fun
  | [d] => { results := [.lit (.bool true)], args := [d] }
  | _ => none }
def placeRoundsRow : OpenClaim := { program := "ytnpfjmblgjojcaadoor", sum := "30004196808b216f5b1df60a3cec630e04cab1d110b202d466597ab0561e8c5c", func := "spindle/spindlelaw11.PlaceRounds", spec := "placeRounds", unfollowed := true, recurses := true, named := ["spindle/place.columns", "spindle/place.rows"], plainKeys := false, apart := false, laid := [("spindle/place.columns", laid_spindle_place_columns), ("spindle/place.rows", laid_spindle_place_rows)] }
def PlaceRoundsSaid : Prop := placeRoundsRow.holds Tryd.pinned (OpenSpec.ofChange placeRoundsSpec)

/-- ITS FALSE NEIGHBOUR: 'it returns false'. Refute it at one input. -/
def placeRoundsWrong : ChangeSpec := { name := "placeRounds", fn := fun _ => fun
  | [d] => { results := [.lit (.bool false)], args := [d] }
  | _ => none }
def PlaceRoundsWrongFalsely : Prop := placeRoundsRow.holds Tryd.pinned (OpenSpec.ofChange placeRoundsWrong)

/-- 'spindlelaw11.PlaceGrid': WHATEVER THE INPUT: true; the input reads as it did. -/
def placeGridSpec : ChangeSpec := { name := "placeGrid", fn := fun _ => fun
  | [d1, d2, d3] => { results := [.lit (.bool true)], args := [d1, d2, d3] }
  | _ => none }
def placeGridRow : OpenClaim := { program := "ytnpfjmblgjojcaadoor", sum := "30004196808b216f5b1df60a3cec630e04cab1d110b202d466597ab0561e8c5c", func := "spindle/spindlelaw11.PlaceGrid", spec := "placeGrid", named := ["spindle/place.columns", "spindle/place.rows"], plainKeys := false, apart := false, laid := [("spindle/place.columns", laid_spindle_place_columns), ("spindle/place.rows", laid_spindle_place_rows)] }
def PlaceGridSaid : Prop := placeGridRow.holds Tryd.pinned (OpenSpec.ofChange placeGridSpec)

/-- ITS FALSE NEIGHBOUR: 'it returns false'. Refute it at one input. -/
def placeGridWrong : ChangeSpec := { name := "placeGrid", fn := fun _ => fun
  | [d1, d2, d3] => { results := [.lit (.bool false)], args := [d1, d2, d3] }
  | _ => none }
def PlaceGridWrongFalsely : Prop := placeGridRow.holds Tryd.pinned (OpenSpec.ofChange placeGridWrong)

/- THE SECOND FORM. 'bulk': how many values and letters a reading holds, each counted each time it is reached (what is shared counts as often as it is met; a slice's spare places count too). A statement '..UptoSaid' is the law's where the arguments, and the package variables that the reading takes, are together of bulk at most 1048576: NARROWER than '..Said'. Prove '..Said' where nothing that the law and all that it calls make is longer than what came in: it says more and counts as full. Else prove '..UptoSaid'. A law counts once. -/
mutual
def uptoBulk {H : Type} : DataW H → Nat
  | .lit (.string bytes) => bytes.length + 1
  | .lit _ => 1
  | .nil => 1
  | .ptr d => uptoBulk d + 1
  | .slice elems spare => uptoBulkAll elems + uptoBulkAll spare + 1
  | .agg parts => uptoBulkAll parts + 1
  | .iface _ d => uptoBulk d + 1
  | .map entries => uptoBulkEntries entries + 1
  | .held _ => 1
def uptoBulkAll {H : Type} : List (DataW H) → Nat
  | [] => 0
  | d :: r => uptoBulk d + uptoBulkAll r
def uptoBulkEntries {H : Type} : List (Lit × DataW H) → Nat
  | [] => 0
  | x :: r => uptoBulkEntry x + uptoBulkEntries r
def uptoBulkEntry {H : Type} : Lit × DataW H → Nat
  | (.string bytes, d) => bytes.length + uptoBulk d + 1
  | (_, d) => uptoBulk d + 1
 end
def uptoSmall : (H : Type) → List (DataW H) → Bool := fun _ ds => decide (uptoBulkAll ds ≤ 1048576)
def OpenSpec.upto (s : _root_.Go.ChangeSpec) : _root_.Go.OpenSpec := { _root_.Go.OpenSpec.ofChange s with cond := some uptoSmall }

/-- 'spindlelaw11.PlaceNames', WHERE WHAT IT READS IS OF BULK AT MOST 1048576: true; the input reads as it did. -/
def placeNamesUptoRow : OpenClaim := { program := "ytnpfjmblgjojcaadoor", sum := "30004196808b216f5b1df60a3cec630e04cab1d110b202d466597ab0561e8c5c", func := "spindle/spindlelaw11.PlaceNames", spec := "placeNames", unfollowed := true, recurses := true, named := ["spindle/place.columns", "spindle/place.rows"], plainKeys := false, apart := false, laid := [("spindle/place.columns", laid_spindle_place_columns), ("spindle/place.rows", laid_spindle_place_rows)], narrowed := true }
def PlaceNamesUptoSaid : Prop := placeNamesUptoRow.holds Tryd.pinned (OpenSpec.upto placeNamesSpec)

/-- 'spindlelaw11.PlaceMatches', WHERE WHAT IT READS IS OF BULK AT MOST 1048576: true; the input reads as it did. -/
def placeMatchesUptoRow : OpenClaim := { program := "ytnpfjmblgjojcaadoor", sum := "30004196808b216f5b1df60a3cec630e04cab1d110b202d466597ab0561e8c5c", func := "spindle/spindlelaw11.PlaceMatches", spec := "placeMatches", named := ["spindle/place.columns", "spindle/place.rows"], plainKeys := false, apart := false, laid := [("spindle/place.columns", laid_spindle_place_columns), ("spindle/place.rows", laid_spindle_place_rows)], narrowed := true }
def PlaceMatchesUptoSaid : Prop := placeMatchesUptoRow.holds Tryd.pinned (OpenSpec.upto placeMatchesSpec)

/-- 'spindlelaw11.PlaceNears', WHERE WHAT IT READS IS OF BULK AT MOST 1048576: true; the input reads as it did. -/
def placeNearsUptoRow : OpenClaim := { program := "ytnpfjmblgjojcaadoor", sum := "30004196808b216f5b1df60a3cec630e04cab1d110b202d466597ab0561e8c5c", func := "spindle/spindlelaw11.PlaceNears", spec := "placeNears", named := ["spindle/place.columns", "spindle/place.rows"], plainKeys := false, apart := false, laid := [("spindle/place.columns", laid_spindle_place_columns), ("spindle/place.rows", laid_spindle_place_rows)], narrowed := true }
def PlaceNearsUptoSaid : Prop := placeNearsUptoRow.holds Tryd.pinned (OpenSpec.upto placeNearsSpec)

/-- 'spindlelaw11.PlaceInverse', WHERE WHAT IT READS IS OF BULK AT MOST 1048576: true; the input reads as it did. -/
def placeInverseUptoRow : OpenClaim := { program := "ytnpfjmblgjojcaadoor", sum := "30004196808b216f5b1df60a3cec630e04cab1d110b202d466597ab0561e8c5c", func := "spindle/spindlelaw11.PlaceInverse", spec := "placeInverse", named := ["spindle/place.columns", "spindle/place.rows"], plainKeys := false, apart := false, laid := [("spindle/place.columns", laid_spindle_place_columns), ("spindle/place.rows", laid_spindle_place_rows)], narrowed := true }
def PlaceInverseUptoSaid : Prop := placeInverseUptoRow.holds Tryd.pinned (OpenSpec.upto placeInverseSpec)

/-- 'spindlelaw11.PlaceRounds', WHERE WHAT IT READS IS OF BULK AT MOST 1048576: true; the input reads as it did. -/
def placeRoundsUptoRow : OpenClaim := { program := "ytnpfjmblgjojcaadoor", sum := "30004196808b216f5b1df60a3cec630e04cab1d110b202d466597ab0561e8c5c", func := "spindle/spindlelaw11.PlaceRounds", spec := "placeRounds", unfollowed := true, recurses := true, named := ["spindle/place.columns", "spindle/place.rows"], plainKeys := false, apart := false, laid := [("spindle/place.columns", laid_spindle_place_columns), ("spindle/place.rows", laid_spindle_place_rows)], narrowed := true }
def PlaceRoundsUptoSaid : Prop := placeRoundsUptoRow.holds Tryd.pinned (OpenSpec.upto placeRoundsSpec)

/-- 'spindlelaw11.PlaceGrid', WHERE WHAT IT READS IS OF BULK AT MOST 1048576: true; the input reads as it did. -/
def placeGridUptoRow : OpenClaim := { program := "ytnpfjmblgjojcaadoor", sum := "30004196808b216f5b1df60a3cec630e04cab1d110b202d466597ab0561e8c5c", func := "spindle/spindlelaw11.PlaceGrid", spec := "placeGrid", named := ["spindle/place.columns", "spindle/place.rows"], plainKeys := false, apart := false, laid := [("spindle/place.columns", laid_spindle_place_columns), ("spindle/place.rows", laid_spindle_place_rows)], narrowed := true }
def PlaceGridUptoSaid : Prop := placeGridUptoRow.holds Tryd.pinned (OpenSpec.upto placeGridSpec)

end Rows
end Go.Proofs.YtnpfjmblgjojcaaDoor
