/-
  No cell of these rows narrows 'for every input' (looked for: loops, veiled, ifaces, maps, wideKeys, modest, calm, conditions, laid).
  DERIVED. THE GIVEN ROWS OF THIS SEAT. 6 by the template 'for every input the law returns true; each argument reads behind the call as it read before'; 0 by the template 'total and deterministic' (their statements: YtfmfknjjhemnoaaTotals.lean).
  GIVEN WITH THE SEED: the statements are not yours to turn. If you find one false, say at which input.
  Laid BY PROGRAM, IN A SANDBOX (cutbox-rows.mjs): the forced cells as the released guide's own fill.sh prints them over the translation 9c4eb95172a7aa0a… (all of the seat's roots in one cut). By AI agents, Wed Nov 11 2026. No macro, syntax, notation, axiom, sorry.
-/
import Derived.Test.YtfmfknjjhemnoaaChecked
import GoSem.Claim
import GoSem.ClaimJoined
import GoSem.ClaimMapViews
import Derived.JoinedTies
import Derived.KernelRfl
namespace Go.Proofs.Ytfmfknjjhemnoaa
/- THE CELL 'sum', in the pinned program and in every row, IS THE sha256 OF THE DUMP (.gsa) THAT YtfmfknjjhemnoaaProg.lean LOADS. Nothing in Lean hashes anything: it is a label: what it is worth is what the hold of that sum in a sandbox is worth. -/
noncomputable def Try.pinned : Pinned := { name := "ytfmfknjjhemnoaa", sum := "9c4eb95172a7aa0a0c62a3e61645b07a13ff0e1c0e1eb97c4e0869131adb5e1f", checked := Try.checked }
namespace Rows
def none {H : Type} : Left H := { results := [], args := [] }

/-- 'spindlelaw14.NearMatches': WHATEVER THE INPUT: true; the input reads as it did. -/
def nearMatchesSpec : ChangeSpec := { name := "nearMatches", fn := fun _ => fun
  | [d1, d2, d3] => { results := [.lit (.bool true)], args := [d1, d2, d3] }
  | _ => none }
def nearMatchesRow : OpenClaim := { program := "ytfmfknjjhemnoaa", sum := "9c4eb95172a7aa0a0c62a3e61645b07a13ff0e1c0e1eb97c4e0869131adb5e1f", func := "spindle/spindlelaw14.NearMatches", spec := "nearMatches", unfollowed := true, recurses := true, apart := false }
def NearMatchesSaid : Prop := nearMatchesRow.holds Try.pinned (OpenSpec.ofChange nearMatchesSpec)

/-- ITS FALSE NEIGHBOUR: 'it returns false'. Refute it at one input. -/
def nearMatchesWrong : ChangeSpec := { name := "nearMatches", fn := fun _ => fun
  | [d1, d2, d3] => { results := [.lit (.bool false)], args := [d1, d2, d3] }
  | _ => none }
def NearMatchesWrongFalsely : Prop := nearMatchesRow.holds Try.pinned (OpenSpec.ofChange nearMatchesWrong)

/-- 'spindlelaw14.NearExamples': WHATEVER THE INPUT: true; the input reads as it did. -/
def nearExamplesSpec : ChangeSpec := { name := "nearExamples", fn := fun _ => fun
  | [] => { results := [.lit (.bool true)], args := [] }
  | _ => none }
def nearExamplesRow : OpenClaim := { program := "ytfmfknjjhemnoaa", sum := "9c4eb95172a7aa0a0c62a3e61645b07a13ff0e1c0e1eb97c4e0869131adb5e1f", func := "spindle/spindlelaw14.NearExamples", spec := "nearExamples", unfollowed := true, recurses := true, apart := false }
def NearExamplesSaid : Prop := nearExamplesRow.holds Try.pinned (OpenSpec.ofChange nearExamplesSpec)

/-- ITS FALSE NEIGHBOUR: 'it returns false'. Refute it at one input. -/
def nearExamplesWrong : ChangeSpec := { name := "nearExamples", fn := fun _ => fun
  | [] => { results := [.lit (.bool false)], args := [] }
  | _ => none }
def NearExamplesWrongFalsely : Prop := nearExamplesRow.holds Try.pinned (OpenSpec.ofChange nearExamplesWrong)

/-- 'spindlelaw14.NearPlaces': WHATEVER THE INPUT: true; the input reads as it did. -/
def nearPlacesSpec : ChangeSpec := { name := "nearPlaces", fn := fun _ => fun
  | [d1, d2, d3] => { results := [.lit (.bool true)], args := [d1, d2, d3] }
  | _ => none }
def nearPlacesRow : OpenClaim := { program := "ytfmfknjjhemnoaa", sum := "9c4eb95172a7aa0a0c62a3e61645b07a13ff0e1c0e1eb97c4e0869131adb5e1f", func := "spindle/spindlelaw14.NearPlaces", spec := "nearPlaces", unfollowed := true, recurses := true, apart := false }
def NearPlacesSaid : Prop := nearPlacesRow.holds Try.pinned (OpenSpec.ofChange nearPlacesSpec)

/-- ITS FALSE NEIGHBOUR: 'it returns false'. Refute it at one input. -/
def nearPlacesWrong : ChangeSpec := { name := "nearPlaces", fn := fun _ => fun
  | [d1, d2, d3] => { results := [.lit (.bool false)], args := [d1, d2, d3] }
  | _ => none }
def NearPlacesWrongFalsely : Prop := nearPlacesRow.holds Try.pinned (OpenSpec.ofChange nearPlacesWrong)

/-- 'spindlelaw14.NearIgnores': WHATEVER THE INPUT: true; the input reads as it did. -/
def nearIgnoresSpec : ChangeSpec := { name := "nearIgnores", fn := fun _ => fun
  | [d1, d2, d3, d4, d5] => { results := [.lit (.bool true)], args := [d1, d2, d3, d4, d5] }
  | _ => none }
def nearIgnoresRow : OpenClaim := { program := "ytfmfknjjhemnoaa", sum := "9c4eb95172a7aa0a0c62a3e61645b07a13ff0e1c0e1eb97c4e0869131adb5e1f", func := "spindle/spindlelaw14.NearIgnores", spec := "nearIgnores", unfollowed := true, recurses := true, apart := false }
def NearIgnoresSaid : Prop := nearIgnoresRow.holds Try.pinned (OpenSpec.ofChange nearIgnoresSpec)

/-- ITS FALSE NEIGHBOUR: 'it returns false'. Refute it at one input. -/
def nearIgnoresWrong : ChangeSpec := { name := "nearIgnores", fn := fun _ => fun
  | [d1, d2, d3, d4, d5] => { results := [.lit (.bool false)], args := [d1, d2, d3, d4, d5] }
  | _ => none }
def NearIgnoresWrongFalsely : Prop := nearIgnoresRow.holds Try.pinned (OpenSpec.ofChange nearIgnoresWrong)

/-- 'spindlelaw14.NearCopies': WHATEVER THE INPUT: true; the input reads as it did. -/
def nearCopiesSpec : ChangeSpec := { name := "nearCopies", fn := fun _ => fun
  | [d1, d2, d3, d4] => { results := [.lit (.bool true)], args := [d1, d2, d3, d4] }
  | _ => none }
def nearCopiesRow : OpenClaim := { program := "ytfmfknjjhemnoaa", sum := "9c4eb95172a7aa0a0c62a3e61645b07a13ff0e1c0e1eb97c4e0869131adb5e1f", func := "spindle/spindlelaw14.NearCopies", spec := "nearCopies", unfollowed := true, recurses := true, apart := false }
def NearCopiesSaid : Prop := nearCopiesRow.holds Try.pinned (OpenSpec.ofChange nearCopiesSpec)

/-- ITS FALSE NEIGHBOUR: 'it returns false'. Refute it at one input. -/
def nearCopiesWrong : ChangeSpec := { name := "nearCopies", fn := fun _ => fun
  | [d1, d2, d3, d4] => { results := [.lit (.bool false)], args := [d1, d2, d3, d4] }
  | _ => none }
def NearCopiesWrongFalsely : Prop := nearCopiesRow.holds Try.pinned (OpenSpec.ofChange nearCopiesWrong)

/-- 'spindlelaw14.NearRows': WHATEVER THE INPUT: true; the input reads as it did. -/
def nearRowsSpec : ChangeSpec := { name := "nearRows", fn := fun _ => fun
  | [d1, d2] => { results := [.lit (.bool true)], args := [d1, d2] }
  | _ => none }
def nearRowsRow : OpenClaim := { program := "ytfmfknjjhemnoaa", sum := "9c4eb95172a7aa0a0c62a3e61645b07a13ff0e1c0e1eb97c4e0869131adb5e1f", func := "spindle/spindlelaw14.NearRows", spec := "nearRows", unfollowed := true, recurses := true, apart := false }
def NearRowsSaid : Prop := nearRowsRow.holds Try.pinned (OpenSpec.ofChange nearRowsSpec)

/-- ITS FALSE NEIGHBOUR: 'it returns false'. Refute it at one input. -/
def nearRowsWrong : ChangeSpec := { name := "nearRows", fn := fun _ => fun
  | [d1, d2] => { results := [.lit (.bool false)], args := [d1, d2] }
  | _ => none }
def NearRowsWrongFalsely : Prop := nearRowsRow.holds Try.pinned (OpenSpec.ofChange nearRowsWrong)

/- THE SECOND FORM. 'bulk': how many values and letters a reading holds, each counted each time it is reached (what is shared counts as often as it is met; a slice's spare places count too). A statement '..UptoSaid' is the law's where the arguments, and the package variables that the reading takes, are together of bulk at most 1048576: NARROWER than '..Said'. Prove '..Said' where nothing that the law and all that it calls make is longer than what came in: it says more and counts as full. Else prove '..UptoSaid'. A law counts once. -/
mutual
def uptoBulk {H : Type} : DataW H → Nat
  | .lit (.string bytes) => bytes.length + 1
  | .lit _ => 1
  | .nil => 1
  | .ptr d => uptoBulk d + 1
  | .slice elems spare => uptoBulkAll elems + uptoBulkAll spare + 1
  | .agg parts => uptoBulkAll parts + 1
  | .iface _ d => uptoBulk d + 1
  | .map entries => uptoBulkEntries entries + 1
  | .held _ => 1
def uptoBulkAll {H : Type} : List (DataW H) → Nat
  | [] => 0
  | d :: r => uptoBulk d + uptoBulkAll r
def uptoBulkEntries {H : Type} : List (Lit × DataW H) → Nat
  | [] => 0
  | x :: r => uptoBulkEntry x + uptoBulkEntries r
def uptoBulkEntry {H : Type} : Lit × DataW H → Nat
  | (.string bytes, d) => bytes.length + uptoBulk d + 1
  | (_, d) => uptoBulk d + 1
 end
def uptoSmall : (H : Type) → List (DataW H) → Bool := fun _ ds => decide (uptoBulkAll ds ≤ 1048576)
def OpenSpec.upto (s : _root_.Go.ChangeSpec) : _root_.Go.OpenSpec := { _root_.Go.OpenSpec.ofChange s with cond := some uptoSmall }

/-- 'spindlelaw14.NearMatches', WHERE WHAT IT READS IS OF BULK AT MOST 1048576: true; the input reads as it did. -/
def nearMatchesUptoRow : OpenClaim := { program := "ytfmfknjjhemnoaa", sum := "9c4eb95172a7aa0a0c62a3e61645b07a13ff0e1c0e1eb97c4e0869131adb5e1f", func := "spindle/spindlelaw14.NearMatches", spec := "nearMatches", unfollowed := true, recurses := true, apart := false, narrowed := true }
def NearMatchesUptoSaid : Prop := nearMatchesUptoRow.holds Try.pinned (OpenSpec.upto nearMatchesSpec)

/-- 'spindlelaw14.NearExamples', WHERE WHAT IT READS IS OF BULK AT MOST 1048576: true; the input reads as it did. -/
def nearExamplesUptoRow : OpenClaim := { program := "ytfmfknjjhemnoaa", sum := "9c4eb95172a7aa0a0c62a3e61645b07a13ff0e1c0e1eb97c4e0869131adb5e1f", func := "spindle/spindlelaw14.NearExamples", spec := "nearExamples", unfollowed := true, recurses := true, apart := false, narrowed := true }
def NearExamplesUptoSaid : Prop := nearExamplesUptoRow.holds Try.pinned (OpenSpec.upto nearExamplesSpec)

/-- 'spindlelaw14.NearPlaces', WHERE WHAT IT READS IS OF BULK AT MOST 1048576: true; the input reads as it did. -/
def nearPlacesUptoRow : OpenClaim := { program := "ytfmfknjjhemnoaa", sum := "9c4eb95172a7aa0a0c62a3e61645b07a13ff0e1c0e1eb97c4e0869131adb5e1f", func := "spindle/spindlelaw14.NearPlaces", spec := "nearPlaces", unfollowed := true, recurses := true, apart := false, narrowed := true }
def NearPlacesUptoSaid : Prop := nearPlacesUptoRow.holds Try.pinned (OpenSpec.upto nearPlacesSpec)

/-- 'spindlelaw14.NearIgnores', WHERE WHAT IT READS IS OF BULK AT MOST 1048576: true; the input reads as it did. -/
def nearIgnoresUptoRow : OpenClaim := { program := "ytfmfknjjhemnoaa", sum := "9c4eb95172a7aa0a0c62a3e61645b07a13ff0e1c0e1eb97c4e0869131adb5e1f", func := "spindle/spindlelaw14.NearIgnores", spec := "nearIgnores", unfollowed := true, recurses := true, apart := false, narrowed := true }
def NearIgnoresUptoSaid : Prop := nearIgnoresUptoRow.holds Try.pinned (OpenSpec.upto nearIgnoresSpec)

/-- 'spindlelaw14.NearCopies', WHERE WHAT IT READS IS OF BULK AT MOST 1048576: true; the input reads as it did. -/
def nearCopiesUptoRow : OpenClaim := { program := "ytfmfknjjhemnoaa", sum := "9c4eb95172a7aa0a0c62a3e61645b07a13ff0e1c0e1eb97c4e0869131adb5e1f", func := "spindle/spindlelaw14.NearCopies", spec := "nearCopies", unfollowed := true, recurses := true, apart := false, narrowed := true }
def NearCopiesUptoSaid : Prop := nearCopiesUptoRow.holds Try.pinned (OpenSpec.upto nearCopiesSpec)

/-- 'spindlelaw14.NearRows', WHERE WHAT IT READS IS OF BULK AT MOST 1048576: true; the input reads as it did. -/
def nearRowsUptoRow : OpenClaim := { program := "ytfmfknjjhemnoaa", sum := "9c4eb95172a7aa0a0c62a3e61645b07a13ff0e1c0e1eb97c4e0869131adb5e1f", func := "spindle/spindlelaw14.NearRows", spec := "nearRows", unfollowed := true, recurses := true, apart := false, narrowed := true }
def NearRowsUptoSaid : Prop := nearRowsUptoRow.holds Try.pinned (OpenSpec.upto nearRowsSpec)

end Rows
end Go.Proofs.Ytfmfknjjhemnoaa
