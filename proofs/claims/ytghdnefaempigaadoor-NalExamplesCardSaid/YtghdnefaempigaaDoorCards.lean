/-
  DERIVED. GIVEN WITH THE SEED: THE CARDS: each row of YtghdnefaempigaaDoorRows.lean that lists a variable, with what it lists TIED to the program's text (the seventh form; the later family's looks); each row that meets fmt, with fmt's text TOLD by the authors' own Lean function (tested against real Go, not proved from fmt's source: count such statements apart). THE CARD IS WHAT COUNTS. Prove the row's statement (the work); the ties are given (YtghdnefaempigaaDoorTie.lean); close each card by the builder's one call (the guide's Derived/Test/ToyasCard.lean, 'card_holds'). Laid BY PROGRAM, IN A SANDBOX (cutbox-door.mjs). By AI agents, Wed Nov 11 2026. No macro, syntax, notation, axiom, sorry.
-/
import Derived.Test.YtghdnefaempigaaDoorRows
import GoSem.ClaimSeven
namespace Go.Proofs.YtghdnefaempigaaDoor
namespace Rows

/-- THE TIED CARD OF 'spindlelaw03.NalMatches'. -/
def nalMatchesCard : Claim7 := { stood := { row := nalMatchesRow, standIns := [], harness := (true, "660081f47df896c0ec028dcd29f2cf63345394297d98f274dc4ba0adb416b7a3"), looks := false }, kinds := [], alts := [], laidByText := true, laidKinds := [.data, .pinned], laidTests := true, laidLooks := .later }
def NalMatchesCardSaid : Prop := Claim7.holds Tryd.pinned (.plain (OpenSpec.ofChange nalMatchesSpec)) nalMatchesCard

/-- THE TIED CARD OF 'spindlelaw03.NalEncodes'. -/
def nalEncodesCard : Claim7 := { stood := { row := nalEncodesRow, standIns := [], harness := (true, "660081f47df896c0ec028dcd29f2cf63345394297d98f274dc4ba0adb416b7a3"), looks := false }, kinds := [], alts := [], laidByText := true, laidKinds := [.data, .pinned], laidTests := true, laidLooks := .later }
def NalEncodesCardSaid : Prop := Claim7.holds Tryd.pinned (.plain (OpenSpec.ofChange nalEncodesSpec)) nalEncodesCard

/-- THE TIED CARD OF 'spindlelaw03.NalExamples'. -/
def nalExamplesCard : Claim7 := { stood := { row := nalExamplesRow, standIns := [], harness := (true, "660081f47df896c0ec028dcd29f2cf63345394297d98f274dc4ba0adb416b7a3"), looks := false }, kinds := [], alts := [], laidByText := true, laidKinds := [.data, .pinned], laidTests := true, laidLooks := .later }
def NalExamplesCardSaid : Prop := Claim7.holds Tryd.pinned (.plain (OpenSpec.ofChange nalExamplesSpec)) nalExamplesCard

/-- THE TIED CARD OF 'spindlelaw03.NalBack'. -/
def nalBackCard : Claim7 := { stood := { row := nalBackRow, standIns := [], harness := (true, "660081f47df896c0ec028dcd29f2cf63345394297d98f274dc4ba0adb416b7a3"), looks := false }, kinds := [], alts := [], laidByText := true, laidKinds := [.data, .pinned], laidTests := true, laidLooks := .later }
def NalBackCardSaid : Prop := Claim7.holds Tryd.pinned (.plain (OpenSpec.ofChange nalBackSpec)) nalBackCard

/-- THE TIED CARD OF 'spindlelaw03.NalLengths'. -/
def nalLengthsCard : Claim7 := { stood := { row := nalLengthsRow, standIns := [], harness := (true, "660081f47df896c0ec028dcd29f2cf63345394297d98f274dc4ba0adb416b7a3"), looks := false }, kinds := [], alts := [], laidByText := true, laidKinds := [.data, .pinned], laidTests := true, laidLooks := .later }
def NalLengthsCardSaid : Prop := Claim7.holds Tryd.pinned (.plain (OpenSpec.ofChange nalLengthsSpec)) nalLengthsCard

/-- THE TIED CARD OF 'spindlelaw03.NalUnits'. -/
def nalUnitsCard : Claim7 := { stood := { row := nalUnitsRow, standIns := [], harness := (true, "660081f47df896c0ec028dcd29f2cf63345394297d98f274dc4ba0adb416b7a3"), looks := false }, kinds := [], alts := [], laidByText := true, laidKinds := [.data, .pinned], laidTests := true, laidLooks := .later }
def NalUnitsCardSaid : Prop := Claim7.holds Tryd.pinned (.plain (OpenSpec.ofChange nalUnitsSpec)) nalUnitsCard

/-- THE TIED CARD OF 'spindlelaw03.NalParts'. -/
def nalPartsCard : Claim7 := { stood := { row := nalPartsRow, standIns := [], harness := (true, "660081f47df896c0ec028dcd29f2cf63345394297d98f274dc4ba0adb416b7a3"), looks := false }, kinds := [], alts := [], laidByText := true, laidKinds := [.data, .pinned], laidTests := true, laidLooks := .later }
def NalPartsCardSaid : Prop := Claim7.holds Tryd.pinned (.plain (OpenSpec.ofChange nalPartsSpec)) nalPartsCard

/-- THE TIED CARD OF 'spindlelaw03.NalZeros'. -/
def nalZerosCard : Claim7 := { stood := { row := nalZerosRow, standIns := [], harness := (true, "660081f47df896c0ec028dcd29f2cf63345394297d98f274dc4ba0adb416b7a3"), looks := false }, kinds := [], alts := [], laidByText := true, laidKinds := [.data, .pinned], laidTests := true, laidLooks := .later }
def NalZerosCardSaid : Prop := Claim7.holds Tryd.pinned (.plain (OpenSpec.ofChange nalZerosSpec)) nalZerosCard

/-- THE SECOND FORM's CARD OF 'spindlelaw03.NalMatches'. -/
def nalMatchesUptoCard : Claim7 := { stood := { row := nalMatchesUptoRow, standIns := [], harness := (true, "660081f47df896c0ec028dcd29f2cf63345394297d98f274dc4ba0adb416b7a3"), looks := false }, kinds := [], alts := [], laidByText := true, laidKinds := [.data, .pinned], laidTests := true, laidLooks := .later }
def NalMatchesUptoCardSaid : Prop := Claim7.holds Tryd.pinned (.plain (OpenSpec.upto nalMatchesSpec)) nalMatchesUptoCard

/-- THE SECOND FORM's CARD OF 'spindlelaw03.NalEncodes'. -/
def nalEncodesUptoCard : Claim7 := { stood := { row := nalEncodesUptoRow, standIns := [], harness := (true, "660081f47df896c0ec028dcd29f2cf63345394297d98f274dc4ba0adb416b7a3"), looks := false }, kinds := [], alts := [], laidByText := true, laidKinds := [.data, .pinned], laidTests := true, laidLooks := .later }
def NalEncodesUptoCardSaid : Prop := Claim7.holds Tryd.pinned (.plain (OpenSpec.upto nalEncodesSpec)) nalEncodesUptoCard

/-- THE SECOND FORM's CARD OF 'spindlelaw03.NalExamples'. -/
def nalExamplesUptoCard : Claim7 := { stood := { row := nalExamplesUptoRow, standIns := [], harness := (true, "660081f47df896c0ec028dcd29f2cf63345394297d98f274dc4ba0adb416b7a3"), looks := false }, kinds := [], alts := [], laidByText := true, laidKinds := [.data, .pinned], laidTests := true, laidLooks := .later }
def NalExamplesUptoCardSaid : Prop := Claim7.holds Tryd.pinned (.plain (OpenSpec.upto nalExamplesSpec)) nalExamplesUptoCard

/-- THE SECOND FORM's CARD OF 'spindlelaw03.NalBack'. -/
def nalBackUptoCard : Claim7 := { stood := { row := nalBackUptoRow, standIns := [], harness := (true, "660081f47df896c0ec028dcd29f2cf63345394297d98f274dc4ba0adb416b7a3"), looks := false }, kinds := [], alts := [], laidByText := true, laidKinds := [.data, .pinned], laidTests := true, laidLooks := .later }
def NalBackUptoCardSaid : Prop := Claim7.holds Tryd.pinned (.plain (OpenSpec.upto nalBackSpec)) nalBackUptoCard

/-- THE SECOND FORM's CARD OF 'spindlelaw03.NalLengths'. -/
def nalLengthsUptoCard : Claim7 := { stood := { row := nalLengthsUptoRow, standIns := [], harness := (true, "660081f47df896c0ec028dcd29f2cf63345394297d98f274dc4ba0adb416b7a3"), looks := false }, kinds := [], alts := [], laidByText := true, laidKinds := [.data, .pinned], laidTests := true, laidLooks := .later }
def NalLengthsUptoCardSaid : Prop := Claim7.holds Tryd.pinned (.plain (OpenSpec.upto nalLengthsSpec)) nalLengthsUptoCard

/-- THE SECOND FORM's CARD OF 'spindlelaw03.NalUnits'. -/
def nalUnitsUptoCard : Claim7 := { stood := { row := nalUnitsUptoRow, standIns := [], harness := (true, "660081f47df896c0ec028dcd29f2cf63345394297d98f274dc4ba0adb416b7a3"), looks := false }, kinds := [], alts := [], laidByText := true, laidKinds := [.data, .pinned], laidTests := true, laidLooks := .later }
def NalUnitsUptoCardSaid : Prop := Claim7.holds Tryd.pinned (.plain (OpenSpec.upto nalUnitsSpec)) nalUnitsUptoCard

/-- THE SECOND FORM's CARD OF 'spindlelaw03.NalParts'. -/
def nalPartsUptoCard : Claim7 := { stood := { row := nalPartsUptoRow, standIns := [], harness := (true, "660081f47df896c0ec028dcd29f2cf63345394297d98f274dc4ba0adb416b7a3"), looks := false }, kinds := [], alts := [], laidByText := true, laidKinds := [.data, .pinned], laidTests := true, laidLooks := .later }
def NalPartsUptoCardSaid : Prop := Claim7.holds Tryd.pinned (.plain (OpenSpec.upto nalPartsSpec)) nalPartsUptoCard

/-- THE SECOND FORM's CARD OF 'spindlelaw03.NalZeros'. -/
def nalZerosUptoCard : Claim7 := { stood := { row := nalZerosUptoRow, standIns := [], harness := (true, "660081f47df896c0ec028dcd29f2cf63345394297d98f274dc4ba0adb416b7a3"), looks := false }, kinds := [], alts := [], laidByText := true, laidKinds := [.data, .pinned], laidTests := true, laidLooks := .later }
def NalZerosUptoCardSaid : Prop := Claim7.holds Tryd.pinned (.plain (OpenSpec.upto nalZerosSpec)) nalZerosUptoCard
end Rows
end Go.Proofs.YtghdnefaempigaaDoor
