/-
  DERIVED. GIVEN WITH THE SEED: THE CARDS: each row of YtnpfjmblgjojcaaDoorRows.lean that lists a variable, with what it lists TIED to the program's text (the seventh form; the later family's looks); each row that meets fmt, with fmt's text TOLD by the authors' own Lean function (tested against real Go, not proved from fmt's source: count such statements apart). THE CARD IS WHAT COUNTS. Prove the row's statement (the work); the ties are given (YtnpfjmblgjojcaaDoorTie.lean); close each card by the builder's one call (the guide's Derived/Test/ToyasCard.lean, 'card_holds'). Laid BY PROGRAM, IN A SANDBOX (cutbox-door.mjs). By AI agents, Wed Nov 11 2026. No macro, syntax, notation, axiom, sorry.
-/
import Derived.Test.YtnpfjmblgjojcaaDoorRows
import GoSem.ClaimSeven
namespace Go.Proofs.YtnpfjmblgjojcaaDoor
namespace Rows

/-- THE TIED CARD OF 'spindlelaw11.PlaceNames'. -/
def placeNamesCard : Claim7 := { stood := { row := placeNamesRow, standIns := [], harness := (true, "c138d3f4f3f58a0cdca18ec96dba97c37bb3a6812bf5c63671677a4142e581fa"), looks := false }, kinds := [], alts := [], laidByText := true, laidKinds := [.data, .data], laidTests := true, laidLooks := .later }
def PlaceNamesCardSaid : Prop := Claim7.holds Tryd.pinned (.plain (OpenSpec.ofChange placeNamesSpec)) placeNamesCard

/-- THE TIED CARD OF 'spindlelaw11.PlaceMatches'. -/
def placeMatchesCard : Claim7 := { stood := { row := placeMatchesRow, standIns := [], harness := (true, "c138d3f4f3f58a0cdca18ec96dba97c37bb3a6812bf5c63671677a4142e581fa"), looks := false }, kinds := [], alts := [], laidByText := true, laidKinds := [.data, .data], laidTests := true, laidLooks := .later }
def PlaceMatchesCardSaid : Prop := Claim7.holds Tryd.pinned (.plain (OpenSpec.ofChange placeMatchesSpec)) placeMatchesCard

/-- THE TIED CARD OF 'spindlelaw11.PlaceNears'. -/
def placeNearsCard : Claim7 := { stood := { row := placeNearsRow, standIns := [], harness := (true, "c138d3f4f3f58a0cdca18ec96dba97c37bb3a6812bf5c63671677a4142e581fa"), looks := false }, kinds := [], alts := [], laidByText := true, laidKinds := [.data, .data], laidTests := true, laidLooks := .later }
def PlaceNearsCardSaid : Prop := Claim7.holds Tryd.pinned (.plain (OpenSpec.ofChange placeNearsSpec)) placeNearsCard

/-- THE TIED CARD OF 'spindlelaw11.PlaceInverse'. -/
def placeInverseCard : Claim7 := { stood := { row := placeInverseRow, standIns := [], harness := (true, "c138d3f4f3f58a0cdca18ec96dba97c37bb3a6812bf5c63671677a4142e581fa"), looks := false }, kinds := [], alts := [], laidByText := true, laidKinds := [.data, .data], laidTests := true, laidLooks := .later }
def PlaceInverseCardSaid : Prop := Claim7.holds Tryd.pinned (.plain (OpenSpec.ofChange placeInverseSpec)) placeInverseCard

/-- THE TIED CARD OF 'spindlelaw11.PlaceRounds'. -/
def placeRoundsCard : Claim7 := { stood := { row := placeRoundsRow, standIns := [], harness := (true, "c138d3f4f3f58a0cdca18ec96dba97c37bb3a6812bf5c63671677a4142e581fa"), looks := false }, kinds := [], alts := [], laidByText := true, laidKinds := [.data, .data], laidTests := true, laidLooks := .later }
def PlaceRoundsCardSaid : Prop := Claim7.holds Tryd.pinned (.plain (OpenSpec.ofChange placeRoundsSpec)) placeRoundsCard

/-- THE TIED CARD OF 'spindlelaw11.PlaceGrid'. -/
def placeGridCard : Claim7 := { stood := { row := placeGridRow, standIns := [], harness := (true, "c138d3f4f3f58a0cdca18ec96dba97c37bb3a6812bf5c63671677a4142e581fa"), looks := false }, kinds := [], alts := [], laidByText := true, laidKinds := [.data, .data], laidTests := true, laidLooks := .later }
def PlaceGridCardSaid : Prop := Claim7.holds Tryd.pinned (.plain (OpenSpec.ofChange placeGridSpec)) placeGridCard

/-- THE SECOND FORM's CARD OF 'spindlelaw11.PlaceNames'. -/
def placeNamesUptoCard : Claim7 := { stood := { row := placeNamesUptoRow, standIns := [], harness := (true, "c138d3f4f3f58a0cdca18ec96dba97c37bb3a6812bf5c63671677a4142e581fa"), looks := false }, kinds := [], alts := [], laidByText := true, laidKinds := [.data, .data], laidTests := true, laidLooks := .later }
def PlaceNamesUptoCardSaid : Prop := Claim7.holds Tryd.pinned (.plain (OpenSpec.upto placeNamesSpec)) placeNamesUptoCard

/-- THE SECOND FORM's CARD OF 'spindlelaw11.PlaceMatches'. -/
def placeMatchesUptoCard : Claim7 := { stood := { row := placeMatchesUptoRow, standIns := [], harness := (true, "c138d3f4f3f58a0cdca18ec96dba97c37bb3a6812bf5c63671677a4142e581fa"), looks := false }, kinds := [], alts := [], laidByText := true, laidKinds := [.data, .data], laidTests := true, laidLooks := .later }
def PlaceMatchesUptoCardSaid : Prop := Claim7.holds Tryd.pinned (.plain (OpenSpec.upto placeMatchesSpec)) placeMatchesUptoCard

/-- THE SECOND FORM's CARD OF 'spindlelaw11.PlaceNears'. -/
def placeNearsUptoCard : Claim7 := { stood := { row := placeNearsUptoRow, standIns := [], harness := (true, "c138d3f4f3f58a0cdca18ec96dba97c37bb3a6812bf5c63671677a4142e581fa"), looks := false }, kinds := [], alts := [], laidByText := true, laidKinds := [.data, .data], laidTests := true, laidLooks := .later }
def PlaceNearsUptoCardSaid : Prop := Claim7.holds Tryd.pinned (.plain (OpenSpec.upto placeNearsSpec)) placeNearsUptoCard

/-- THE SECOND FORM's CARD OF 'spindlelaw11.PlaceInverse'. -/
def placeInverseUptoCard : Claim7 := { stood := { row := placeInverseUptoRow, standIns := [], harness := (true, "c138d3f4f3f58a0cdca18ec96dba97c37bb3a6812bf5c63671677a4142e581fa"), looks := false }, kinds := [], alts := [], laidByText := true, laidKinds := [.data, .data], laidTests := true, laidLooks := .later }
def PlaceInverseUptoCardSaid : Prop := Claim7.holds Tryd.pinned (.plain (OpenSpec.upto placeInverseSpec)) placeInverseUptoCard

/-- THE SECOND FORM's CARD OF 'spindlelaw11.PlaceRounds'. -/
def placeRoundsUptoCard : Claim7 := { stood := { row := placeRoundsUptoRow, standIns := [], harness := (true, "c138d3f4f3f58a0cdca18ec96dba97c37bb3a6812bf5c63671677a4142e581fa"), looks := false }, kinds := [], alts := [], laidByText := true, laidKinds := [.data, .data], laidTests := true, laidLooks := .later }
def PlaceRoundsUptoCardSaid : Prop := Claim7.holds Tryd.pinned (.plain (OpenSpec.upto placeRoundsSpec)) placeRoundsUptoCard

/-- THE SECOND FORM's CARD OF 'spindlelaw11.PlaceGrid'. -/
def placeGridUptoCard : Claim7 := { stood := { row := placeGridUptoRow, standIns := [], harness := (true, "c138d3f4f3f58a0cdca18ec96dba97c37bb3a6812bf5c63671677a4142e581fa"), looks := false }, kinds := [], alts := [], laidByText := true, laidKinds := [.data, .data], laidTests := true, laidLooks := .later }
def PlaceGridUptoCardSaid : Prop := Claim7.holds Tryd.pinned (.plain (OpenSpec.upto placeGridSpec)) placeGridUptoCard
end Rows
end Go.Proofs.YtnpfjmblgjojcaaDoor
