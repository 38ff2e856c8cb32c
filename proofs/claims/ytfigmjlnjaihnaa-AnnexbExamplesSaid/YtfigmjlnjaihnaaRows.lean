/-
  No cell of these rows narrows 'for every input' (looked for: loops, veiled, ifaces, maps, wideKeys, modest, calm, conditions, laid).
  DERIVED. THE GIVEN ROWS OF THIS SEAT. 8 by the template 'for every input the law returns true; each argument reads behind the call as it read before'; 0 by the template 'total and deterministic' (their statements: YtfigmjlnjaihnaaTotals.lean).
  GIVEN WITH THE SEED: the statements are not yours to turn. If you find one false, say at which input.
  Laid BY PROGRAM, IN A SANDBOX (cutbox-rows.mjs): the forced cells as the released guide's own fill.sh prints them over the translation 870c97b0e5459f1f… (all of the seat's roots in one cut). By AI agents, Wed Nov 11 2026. No macro, syntax, notation, axiom, sorry.
-/
import Derived.Test.YtfigmjlnjaihnaaChecked
import GoSem.Claim
import GoSem.ClaimJoined
import GoSem.ClaimMapViews
import Derived.JoinedTies
import Derived.KernelRfl
namespace Go.Proofs.Ytfigmjlnjaihnaa
/- THE CELL 'sum', in the pinned program and in every row, IS THE sha256 OF THE DUMP (.gsa) THAT YtfigmjlnjaihnaaProg.lean LOADS. Nothing in Lean hashes anything: it is a label: what it is worth is what the hold of that sum in a sandbox is worth. -/
noncomputable def Try.pinned : Pinned := { name := "ytfigmjlnjaihnaa", sum := "870c97b0e5459f1fb1dae660d1870b26bf65df022aa9359a310e37e1f89f0edb", checked := Try.checked }
namespace Rows
def none {H : Type} : Left H := { results := [], args := [] }

/-- 'spindlelaw04.AnnexbSplits': WHATEVER THE INPUT: true; the input reads as it did. -/
def annexbSplitsSpec : ChangeSpec := { name := "annexbSplits", fn := fun _ => fun
  | [d] => { results := [.lit (.bool true)], args := [d] }
  | _ => none }
def annexbSplitsRow : OpenClaim := { program := "ytfigmjlnjaihnaa", sum := "870c97b0e5459f1fb1dae660d1870b26bf65df022aa9359a310e37e1f89f0edb", func := "spindle/spindlelaw04.AnnexbSplits", spec := "annexbSplits", inPlace := ["internal/bytealg.IndexByteString", "internal/bytealg.IndexString", "internal/abi.NoEscape", "internal/bytealg.MakeNoZero"], unfollowed := true, recurses := true, named := ["internal/bytealg.MaxLen"], apart := false }
def AnnexbSplitsSaid : Prop := annexbSplitsRow.holds Try.pinned (OpenSpec.ofChange annexbSplitsSpec)

/-- ITS FALSE NEIGHBOUR: 'it returns false'. Refute it at one input. -/
def annexbSplitsWrong : ChangeSpec := { name := "annexbSplits", fn := fun _ => fun
  | [d] => { results := [.lit (.bool false)], args := [d] }
  | _ => none }
def AnnexbSplitsWrongFalsely : Prop := annexbSplitsRow.holds Try.pinned (OpenSpec.ofChange annexbSplitsWrong)

/-- 'spindlelaw04.AnnexbJoins': WHATEVER THE INPUT: true; the input reads as it did. -/
def annexbJoinsSpec : ChangeSpec := { name := "annexbJoins", fn := fun _ => fun
  | [d1, d2, d3] => { results := [.lit (.bool true)], args := [d1, d2, d3] }
  | _ => none }
def annexbJoinsRow : OpenClaim := { program := "ytfigmjlnjaihnaa", sum := "870c97b0e5459f1fb1dae660d1870b26bf65df022aa9359a310e37e1f89f0edb", func := "spindle/spindlelaw04.AnnexbJoins", spec := "annexbJoins", inPlace := ["internal/bytealg.IndexByteString", "internal/bytealg.IndexString", "internal/abi.NoEscape", "internal/bytealg.MakeNoZero"], unfollowed := true, recurses := true, named := ["internal/bytealg.MaxLen"], apart := false }
def AnnexbJoinsSaid : Prop := annexbJoinsRow.holds Try.pinned (OpenSpec.ofChange annexbJoinsSpec)

/-- ITS FALSE NEIGHBOUR: 'it returns false'. Refute it at one input. -/
def annexbJoinsWrong : ChangeSpec := { name := "annexbJoins", fn := fun _ => fun
  | [d1, d2, d3] => { results := [.lit (.bool false)], args := [d1, d2, d3] }
  | _ => none }
def AnnexbJoinsWrongFalsely : Prop := annexbJoinsRow.holds Try.pinned (OpenSpec.ofChange annexbJoinsWrong)

/-- 'spindlelaw04.AnnexbExamples': WHATEVER THE INPUT: true; the input reads as it did. -/
def annexbExamplesSpec : ChangeSpec := { name := "annexbExamples", fn := fun _ => fun
  | [] => { results := [.lit (.bool true)], args := [] }
  | _ => none }
def annexbExamplesRow : OpenClaim := { program := "ytfigmjlnjaihnaa", sum := "870c97b0e5459f1fb1dae660d1870b26bf65df022aa9359a310e37e1f89f0edb", func := "spindle/spindlelaw04.AnnexbExamples", spec := "annexbExamples", inPlace := ["internal/bytealg.IndexByteString", "internal/bytealg.IndexString", "internal/abi.NoEscape", "internal/bytealg.MakeNoZero"], unfollowed := true, recurses := true, named := ["internal/bytealg.MaxLen"], apart := false }
def AnnexbExamplesSaid : Prop := annexbExamplesRow.holds Try.pinned (OpenSpec.ofChange annexbExamplesSpec)

/-- ITS FALSE NEIGHBOUR: 'it returns false'. Refute it at one input. -/
def annexbExamplesWrong : ChangeSpec := { name := "annexbExamples", fn := fun _ => fun
  | [] => { results := [.lit (.bool false)], args := [] }
  | _ => none }
def AnnexbExamplesWrongFalsely : Prop := annexbExamplesRow.holds Try.pinned (OpenSpec.ofChange annexbExamplesWrong)

/-- 'spindlelaw04.AnnexbLongest': WHATEVER THE INPUT: true; the input reads as it did. -/
def annexbLongestSpec : ChangeSpec := { name := "annexbLongest", fn := fun _ => fun
  | [] => { results := [.lit (.bool true)], args := [] }
  | _ => none }
def annexbLongestRow : OpenClaim := { program := "ytfigmjlnjaihnaa", sum := "870c97b0e5459f1fb1dae660d1870b26bf65df022aa9359a310e37e1f89f0edb", func := "spindle/spindlelaw04.AnnexbLongest", spec := "annexbLongest", inPlace := ["internal/bytealg.IndexByteString", "internal/bytealg.IndexString", "internal/abi.NoEscape", "internal/bytealg.MakeNoZero"], unfollowed := true, recurses := true, named := ["internal/bytealg.MaxLen"], apart := false }
def AnnexbLongestSaid : Prop := annexbLongestRow.holds Try.pinned (OpenSpec.ofChange annexbLongestSpec)

/-- ITS FALSE NEIGHBOUR: 'it returns false'. Refute it at one input. -/
def annexbLongestWrong : ChangeSpec := { name := "annexbLongest", fn := fun _ => fun
  | [] => { results := [.lit (.bool false)], args := [] }
  | _ => none }
def AnnexbLongestWrongFalsely : Prop := annexbLongestRow.holds Try.pinned (OpenSpec.ofChange annexbLongestWrong)

/-- 'spindlelaw04.AnnexbBack': WHATEVER THE INPUT: true; the input reads as it did. -/
def annexbBackSpec : ChangeSpec := { name := "annexbBack", fn := fun _ => fun
  | [d1, d2] => { results := [.lit (.bool true)], args := [d1, d2] }
  | _ => none }
def annexbBackRow : OpenClaim := { program := "ytfigmjlnjaihnaa", sum := "870c97b0e5459f1fb1dae660d1870b26bf65df022aa9359a310e37e1f89f0edb", func := "spindle/spindlelaw04.AnnexbBack", spec := "annexbBack", inPlace := ["internal/bytealg.IndexByteString", "internal/bytealg.IndexString", "internal/abi.NoEscape", "internal/bytealg.MakeNoZero"], unfollowed := true, recurses := true, named := ["internal/bytealg.MaxLen"], apart := false }
def AnnexbBackSaid : Prop := annexbBackRow.holds Try.pinned (OpenSpec.ofChange annexbBackSpec)

/-- ITS FALSE NEIGHBOUR: 'it returns false'. Refute it at one input. -/
def annexbBackWrong : ChangeSpec := { name := "annexbBack", fn := fun _ => fun
  | [d1, d2] => { results := [.lit (.bool false)], args := [d1, d2] }
  | _ => none }
def AnnexbBackWrongFalsely : Prop := annexbBackRow.holds Try.pinned (OpenSpec.ofChange annexbBackWrong)

/-- 'spindlelaw04.AnnexbCanonical': WHATEVER THE INPUT: true; the input reads as it did. -/
def annexbCanonicalSpec : ChangeSpec := { name := "annexbCanonical", fn := fun _ => fun
  | [d] => { results := [.lit (.bool true)], args := [d] }
  | _ => none }
def annexbCanonicalRow : OpenClaim := { program := "ytfigmjlnjaihnaa", sum := "870c97b0e5459f1fb1dae660d1870b26bf65df022aa9359a310e37e1f89f0edb", func := "spindle/spindlelaw04.AnnexbCanonical", spec := "annexbCanonical", inPlace := ["internal/bytealg.IndexByteString", "internal/bytealg.IndexString", "internal/abi.NoEscape", "internal/bytealg.MakeNoZero"], unfollowed := true, recurses := true, named := ["internal/bytealg.MaxLen"], apart := false }
def AnnexbCanonicalSaid : Prop := annexbCanonicalRow.holds Try.pinned (OpenSpec.ofChange annexbCanonicalSpec)

/-- ITS FALSE NEIGHBOUR: 'it returns false'. Refute it at one input. -/
def annexbCanonicalWrong : ChangeSpec := { name := "annexbCanonical", fn := fun _ => fun
  | [d] => { results := [.lit (.bool false)], args := [d] }
  | _ => none }
def AnnexbCanonicalWrongFalsely : Prop := annexbCanonicalRow.holds Try.pinned (OpenSpec.ofChange annexbCanonicalWrong)

/-- 'spindlelaw04.AnnexbMore': WHATEVER THE INPUT: true; the input reads as it did. -/
def annexbMoreSpec : ChangeSpec := { name := "annexbMore", fn := fun _ => fun
  | [d1, d2] => { results := [.lit (.bool true)], args := [d1, d2] }
  | _ => none }
def annexbMoreRow : OpenClaim := { program := "ytfigmjlnjaihnaa", sum := "870c97b0e5459f1fb1dae660d1870b26bf65df022aa9359a310e37e1f89f0edb", func := "spindle/spindlelaw04.AnnexbMore", spec := "annexbMore", inPlace := ["internal/bytealg.IndexByteString", "internal/bytealg.IndexString", "internal/abi.NoEscape", "internal/bytealg.MakeNoZero"], unfollowed := true, recurses := true, named := ["internal/bytealg.MaxLen"], apart := false }
def AnnexbMoreSaid : Prop := annexbMoreRow.holds Try.pinned (OpenSpec.ofChange annexbMoreSpec)

/-- ITS FALSE NEIGHBOUR: 'it returns false'. Refute it at one input. -/
def annexbMoreWrong : ChangeSpec := { name := "annexbMore", fn := fun _ => fun
  | [d1, d2] => { results := [.lit (.bool false)], args := [d1, d2] }
  | _ => none }
def AnnexbMoreWrongFalsely : Prop := annexbMoreRow.holds Try.pinned (OpenSpec.ofChange annexbMoreWrong)

/-- 'spindlelaw04.AnnexbOdd': WHATEVER THE INPUT: true; the input reads as it did. -/
def annexbOddSpec : ChangeSpec := { name := "annexbOdd", fn := fun _ => fun
  | [d1, d2, d3] => { results := [.lit (.bool true)], args := [d1, d2, d3] }
  | _ => none }
def annexbOddRow : OpenClaim := { program := "ytfigmjlnjaihnaa", sum := "870c97b0e5459f1fb1dae660d1870b26bf65df022aa9359a310e37e1f89f0edb", func := "spindle/spindlelaw04.AnnexbOdd", spec := "annexbOdd", inPlace := ["internal/bytealg.IndexByteString", "internal/bytealg.IndexString", "internal/abi.NoEscape", "internal/bytealg.MakeNoZero"], unfollowed := true, recurses := true, named := ["internal/bytealg.MaxLen"], apart := false }
def AnnexbOddSaid : Prop := annexbOddRow.holds Try.pinned (OpenSpec.ofChange annexbOddSpec)

/-- ITS FALSE NEIGHBOUR: 'it returns false'. Refute it at one input. -/
def annexbOddWrong : ChangeSpec := { name := "annexbOdd", fn := fun _ => fun
  | [d1, d2, d3] => { results := [.lit (.bool false)], args := [d1, d2, d3] }
  | _ => none }
def AnnexbOddWrongFalsely : Prop := annexbOddRow.holds Try.pinned (OpenSpec.ofChange annexbOddWrong)

/- THE SECOND FORM. 'bulk': how many values and letters a reading holds, each counted each time it is reached (what is shared counts as often as it is met; a slice's spare places count too). A statement '..UptoSaid' is the law's where the arguments, and the package variables that the reading takes, are together of bulk at most 1048576: NARROWER than '..Said'. Prove '..Said' where nothing that the law and all that it calls make is longer than what came in: it says more and counts as full. Else prove '..UptoSaid'. A law counts once. -/
mutual
def uptoBulk {H : Type} : DataW H → Nat
  | .lit (.string bytes) => bytes.length + 1
  | .lit _ => 1
  | .nil => 1
  | .ptr d => uptoBulk d + 1
  | .slice elems spare => uptoBulkAll elems + uptoBulkAll spare + 1
  | .agg parts => uptoBulkAll parts + 1
  | .iface _ d => uptoBulk d + 1
  | .map entries => uptoBulkEntries entries + 1
  | .held _ => 1
def uptoBulkAll {H : Type} : List (DataW H) → Nat
  | [] => 0
  | d :: r => uptoBulk d + uptoBulkAll r
def uptoBulkEntries {H : Type} : List (Lit × DataW H) → Nat
  | [] => 0
  | x :: r => uptoBulkEntry x + uptoBulkEntries r
def uptoBulkEntry {H : Type} : Lit × DataW H → Nat
  | (.string bytes, d) => bytes.length + uptoBulk d + 1
  | (_, d) => uptoBulk d + 1
 end
def uptoSmall : (H : Type) → List (DataW H) → Bool := fun _ ds => decide (uptoBulkAll ds ≤ 1048576)
def OpenSpec.upto (s : _root_.Go.ChangeSpec) : _root_.Go.OpenSpec := { _root_.Go.OpenSpec.ofChange s with cond := some uptoSmall }

/-- 'spindlelaw04.AnnexbSplits', WHERE WHAT IT READS IS OF BULK AT MOST 1048576: true; the input reads as it did. -/
def annexbSplitsUptoRow : OpenClaim := { program := "ytfigmjlnjaihnaa", sum := "870c97b0e5459f1fb1dae660d1870b26bf65df022aa9359a310e37e1f89f0edb", func := "spindle/spindlelaw04.AnnexbSplits", spec := "annexbSplits", inPlace := ["internal/bytealg.IndexByteString", "internal/bytealg.IndexString", "internal/abi.NoEscape", "internal/bytealg.MakeNoZero"], unfollowed := true, recurses := true, named := ["internal/bytealg.MaxLen"], apart := false, narrowed := true }
def AnnexbSplitsUptoSaid : Prop := annexbSplitsUptoRow.holds Try.pinned (OpenSpec.upto annexbSplitsSpec)

/-- 'spindlelaw04.AnnexbJoins', WHERE WHAT IT READS IS OF BULK AT MOST 1048576: true; the input reads as it did. -/
def annexbJoinsUptoRow : OpenClaim := { program := "ytfigmjlnjaihnaa", sum := "870c97b0e5459f1fb1dae660d1870b26bf65df022aa9359a310e37e1f89f0edb", func := "spindle/spindlelaw04.AnnexbJoins", spec := "annexbJoins", inPlace := ["internal/bytealg.IndexByteString", "internal/bytealg.IndexString", "internal/abi.NoEscape", "internal/bytealg.MakeNoZero"], unfollowed := true, recurses := true, named := ["internal/bytealg.MaxLen"], apart := false, narrowed := true }
def AnnexbJoinsUptoSaid : Prop := annexbJoinsUptoRow.holds Try.pinned (OpenSpec.upto annexbJoinsSpec)

/-- 'spindlelaw04.AnnexbExamples', WHERE WHAT IT READS IS OF BULK AT MOST 1048576: true; the input reads as it did. -/
def annexbExamplesUptoRow : OpenClaim := { program := "ytfigmjlnjaihnaa", sum := "870c97b0e5459f1fb1dae660d1870b26bf65df022aa9359a310e37e1f89f0edb", func := "spindle/spindlelaw04.AnnexbExamples", spec := "annexbExamples", inPlace := ["internal/bytealg.IndexByteString", "internal/bytealg.IndexString", "internal/abi.NoEscape", "internal/bytealg.MakeNoZero"], unfollowed := true, recurses := true, named := ["internal/bytealg.MaxLen"], apart := false, narrowed := true }
def AnnexbExamplesUptoSaid : Prop := annexbExamplesUptoRow.holds Try.pinned (OpenSpec.upto annexbExamplesSpec)

/-- 'spindlelaw04.AnnexbLongest', WHERE WHAT IT READS IS OF BULK AT MOST 1048576: true; the input reads as it did. -/
def annexbLongestUptoRow : OpenClaim := { program := "ytfigmjlnjaihnaa", sum := "870c97b0e5459f1fb1dae660d1870b26bf65df022aa9359a310e37e1f89f0edb", func := "spindle/spindlelaw04.AnnexbLongest", spec := "annexbLongest", inPlace := ["internal/bytealg.IndexByteString", "internal/bytealg.IndexString", "internal/abi.NoEscape", "internal/bytealg.MakeNoZero"], unfollowed := true, recurses := true, named := ["internal/bytealg.MaxLen"], apart := false, narrowed := true }
def AnnexbLongestUptoSaid : Prop := annexbLongestUptoRow.holds Try.pinned (OpenSpec.upto annexbLongestSpec)

/-- 'spindlelaw04.AnnexbBack', WHERE WHAT IT READS IS OF BULK AT MOST 1048576: true; the input reads as it did. -/
def annexbBackUptoRow : OpenClaim := { program := "ytfigmjlnjaihnaa", sum := "870c97b0e5459f1fb1dae660d1870b26bf65df022aa9359a310e37e1f89f0edb", func := "spindle/spindlelaw04.AnnexbBack", spec := "annexbBack", inPlace := ["internal/bytealg.IndexByteString", "internal/bytealg.IndexString", "internal/abi.NoEscape", "internal/bytealg.MakeNoZero"], unfollowed := true, recurses := true, named := ["internal/bytealg.MaxLen"], apart := false, narrowed := true }
def AnnexbBackUptoSaid : Prop := annexbBackUptoRow.holds Try.pinned (OpenSpec.upto annexbBackSpec)

/-- 'spindlelaw04.AnnexbCanonical', WHERE WHAT IT READS IS OF BULK AT MOST 1048576: true; the input reads as it did. -/
def annexbCanonicalUptoRow : OpenClaim := { program := "ytfigmjlnjaihnaa", sum := "870c97b0e5459f1fb1dae660d1870b26bf65df022aa9359a310e37e1f89f0edb", func := "spindle/spindlelaw04.AnnexbCanonical", spec := "annexbCanonical", inPlace := ["internal/bytealg.IndexByteString", "internal/bytealg.IndexString", "internal/abi.NoEscape", "internal/bytealg.MakeNoZero"], unfollowed := true, recurses := true, named := ["internal/bytealg.MaxLen"], apart := false, narrowed := true }
def AnnexbCanonicalUptoSaid : Prop := annexbCanonicalUptoRow.holds Try.pinned (OpenSpec.upto annexbCanonicalSpec)

/-- 'spindlelaw04.AnnexbMore', WHERE WHAT IT READS IS OF BULK AT MOST 1048576: true; the input reads as it did. -/
def annexbMoreUptoRow : OpenClaim := { program := "ytfigmjlnjaihnaa", sum := "870c97b0e5459f1fb1dae660d1870b26bf65df022aa9359a310e37e1f89f0edb", func := "spindle/spindlelaw04.AnnexbMore", spec := "annexbMore", inPlace := ["internal/bytealg.IndexByteString", "internal/bytealg.IndexString", "internal/abi.NoEscape", "internal/bytealg.MakeNoZero"], unfollowed := true, recurses := true, named := ["internal/bytealg.MaxLen"], apart := false, narrowed := true }
def AnnexbMoreUptoSaid : Prop := annexbMoreUptoRow.holds Try.pinned (OpenSpec.upto annexbMoreSpec)

/-- 'spindlelaw04.AnnexbOdd', WHERE WHAT IT READS IS OF BULK AT MOST 1048576: true; the input reads as it did. -/
def annexbOddUptoRow : OpenClaim := { program := "ytfigmjlnjaihnaa", sum := "870c97b0e5459f1fb1dae660d1870b26bf65df022aa9359a310e37e1f89f0edb", func := "spindle/spindlelaw04.AnnexbOdd", spec := "annexbOdd", inPlace := ["internal/bytealg.IndexByteString", "internal/bytealg.IndexString", "internal/abi.NoEscape", "internal/bytealg.MakeNoZero"], unfollowed := true, recurses := true, named := ["internal/bytealg.MaxLen"], apart := false, narrowed := true }
def AnnexbOddUptoSaid : Prop := annexbOddUptoRow.holds Try.pinned (OpenSpec.upto annexbOddSpec)

end Rows
end Go.Proofs.Ytfigmjlnjaihnaa
