/-
  DERIVED. GIVEN WITH THE SEED: THE CARDS: each row of YtjjjfmnhdnajkaaGreatDoorRows.lean that lists a variable, with what it lists TIED to the program's text (the seventh form; the later family's looks); each row that meets fmt, with fmt's text TOLD by the authors' own Lean function (tested against real Go, not proved from fmt's source: count such statements apart). THE CARD IS WHAT COUNTS. Prove the row's statement (the work); the ties are given (YtjjjfmnhdnajkaaGreatDoorTie.lean); close each card by the builder's one call (the guide's Derived/Test/ToyasCard.lean, 'card_holds'). Laid BY PROGRAM, IN A SANDBOX (cutbox-door.mjs). By AI agents, Wed Nov 11 2026. No macro, syntax, notation, axiom, sorry.
-/
import Derived.Test.YtjjjfmnhdnajkaaGreatDoorRows
import GoSem.ClaimSeven
namespace Go.Proofs.YtjjjfmnhdnajkaaGreatDoor
namespace Rows

/-- THE TIED CARD OF 'spindlelaw10.HeaderExamples'. -/
def headerExamplesCard : Claim7 := { stood := { row := headerExamplesRow, standIns := [], harness := (true, "35beb5c55ea3c5499b6965466efbeb6461b1ee42bc07334517adcb2c5c470ab9"), looks := false }, kinds := [], alts := [], laidByText := true, laidKinds := [.wider, .wider], laidTests := true, laidLooks := .later }
def HeaderExamplesCardSaid : Prop := Claim7.holds Tryz.pinned (.plain (OpenSpec.ofChange headerExamplesSpec)) headerExamplesCard

/-- THE SECOND FORM's CARD OF 'spindlelaw10.HeaderExamples'. -/
def headerExamplesUptoCard : Claim7 := { stood := { row := headerExamplesUptoRow, standIns := [], harness := (true, "35beb5c55ea3c5499b6965466efbeb6461b1ee42bc07334517adcb2c5c470ab9"), looks := false }, kinds := [], alts := [], laidByText := true, laidKinds := [.wider, .wider], laidTests := true, laidLooks := .later }
def HeaderExamplesUptoCardSaid : Prop := Claim7.holds Tryz.pinned (.plain (OpenSpec.upto headerExamplesSpec)) headerExamplesUptoCard
end Rows
end Go.Proofs.YtjjjfmnhdnajkaaGreatDoor
