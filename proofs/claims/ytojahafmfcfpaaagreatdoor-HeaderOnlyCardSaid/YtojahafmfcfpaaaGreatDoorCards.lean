/-
  DERIVED. GIVEN WITH THE SEED: THE CARDS: each row of YtojahafmfcfpaaaGreatDoorRows.lean that lists a variable, with what it lists TIED to the program's text (the seventh form; the later family's looks); each row that meets fmt, with fmt's text TOLD by the authors' own Lean function (tested against real Go, not proved from fmt's source: count such statements apart). THE CARD IS WHAT COUNTS. Prove the row's statement (the work); the ties are given (YtojahafmfcfpaaaGreatDoorTie.lean); close each card by the builder's one call (the guide's Derived/Test/ToyasCard.lean, 'card_holds'). Laid BY PROGRAM, IN A SANDBOX (cutbox-door.mjs). By AI agents, Wed Nov 11 2026. No macro, syntax, notation, axiom, sorry.
-/
import Derived.Test.YtojahafmfcfpaaaGreatDoorRows
import GoSem.ClaimSeven
namespace Go.Proofs.YtojahafmfcfpaaaGreatDoor
namespace Rows

/-- THE TIED CARD OF 'spindlelaw10.HeaderChecks'. -/
def headerChecksCard : Claim7 := { stood := { row := headerChecksRow, standIns := [], harness := (true, "c14e8915c62331e96e7758608f9a4bc280a0db756d404230e29d7f866c6ebdda"), looks := false }, kinds := [], alts := [], laidByText := true, laidKinds := [.wider, .wider], laidTests := true, laidLooks := .later }
def HeaderChecksCardSaid : Prop := Claim7.holds Tryz.pinned (.plain (OpenSpec.ofChange headerChecksSpec)) headerChecksCard

/-- THE TIED CARD OF 'spindlelaw10.HeaderReads'. -/
def headerReadsCard : Claim7 := { stood := { row := headerReadsRow, standIns := [], harness := (true, "c14e8915c62331e96e7758608f9a4bc280a0db756d404230e29d7f866c6ebdda"), looks := false }, kinds := [], alts := [], laidByText := true, laidKinds := [.wider, .wider], laidTests := true, laidLooks := .later }
def HeaderReadsCardSaid : Prop := Claim7.holds Tryz.pinned (.plain (OpenSpec.ofChange headerReadsSpec)) headerReadsCard

/-- THE TIED CARD OF 'spindlelaw10.HeaderExamples'. -/
def headerExamplesCard : Claim7 := { stood := { row := headerExamplesRow, standIns := [], harness := (true, "c14e8915c62331e96e7758608f9a4bc280a0db756d404230e29d7f866c6ebdda"), looks := false }, kinds := [], alts := [], laidByText := true, laidKinds := [.wider, .wider], laidTests := true, laidLooks := .later }
def HeaderExamplesCardSaid : Prop := Claim7.holds Tryz.pinned (.plain (OpenSpec.ofChange headerExamplesSpec)) headerExamplesCard

/-- THE TIED CARD OF 'spindlelaw10.HeaderBack'. -/
def headerBackCard : Claim7 := { stood := { row := headerBackRow, standIns := [], harness := (true, "c14e8915c62331e96e7758608f9a4bc280a0db756d404230e29d7f866c6ebdda"), looks := false }, kinds := [], alts := [], laidByText := true, laidKinds := [.wider, .wider], laidTests := true, laidLooks := .later }
def HeaderBackCardSaid : Prop := Claim7.holds Tryz.pinned (.plain (OpenSpec.ofChange headerBackSpec)) headerBackCard

/-- THE TIED CARD OF 'spindlelaw10.HeaderOnly'. -/
def headerOnlyCard : Claim7 := { stood := { row := headerOnlyRow, standIns := [], harness := (true, "c14e8915c62331e96e7758608f9a4bc280a0db756d404230e29d7f866c6ebdda"), looks := false }, kinds := [], alts := [], laidByText := true, laidKinds := [.wider, .wider], laidTests := true, laidLooks := .later }
def HeaderOnlyCardSaid : Prop := Claim7.holds Tryz.pinned (.plain (OpenSpec.ofChange headerOnlySpec)) headerOnlyCard

/-- THE SECOND FORM's CARD OF 'spindlelaw10.HeaderChecks'. -/
def headerChecksUptoCard : Claim7 := { stood := { row := headerChecksUptoRow, standIns := [], harness := (true, "c14e8915c62331e96e7758608f9a4bc280a0db756d404230e29d7f866c6ebdda"), looks := false }, kinds := [], alts := [], laidByText := true, laidKinds := [.wider, .wider], laidTests := true, laidLooks := .later }
def HeaderChecksUptoCardSaid : Prop := Claim7.holds Tryz.pinned (.plain (OpenSpec.upto headerChecksSpec)) headerChecksUptoCard

/-- THE SECOND FORM's CARD OF 'spindlelaw10.HeaderReads'. -/
def headerReadsUptoCard : Claim7 := { stood := { row := headerReadsUptoRow, standIns := [], harness := (true, "c14e8915c62331e96e7758608f9a4bc280a0db756d404230e29d7f866c6ebdda"), looks := false }, kinds := [], alts := [], laidByText := true, laidKinds := [.wider, .wider], laidTests := true, laidLooks := .later }
def HeaderReadsUptoCardSaid : Prop := Claim7.holds Tryz.pinned (.plain (OpenSpec.upto headerReadsSpec)) headerReadsUptoCard

/-- THE SECOND FORM's CARD OF 'spindlelaw10.HeaderExamples'. -/
def headerExamplesUptoCard : Claim7 := { stood := { row := headerExamplesUptoRow, standIns := [], harness := (true, "c14e8915c62331e96e7758608f9a4bc280a0db756d404230e29d7f866c6ebdda"), looks := false }, kinds := [], alts := [], laidByText := true, laidKinds := [.wider, .wider], laidTests := true, laidLooks := .later }
def HeaderExamplesUptoCardSaid : Prop := Claim7.holds Tryz.pinned (.plain (OpenSpec.upto headerExamplesSpec)) headerExamplesUptoCard

/-- THE SECOND FORM's CARD OF 'spindlelaw10.HeaderBack'. -/
def headerBackUptoCard : Claim7 := { stood := { row := headerBackUptoRow, standIns := [], harness := (true, "c14e8915c62331e96e7758608f9a4bc280a0db756d404230e29d7f866c6ebdda"), looks := false }, kinds := [], alts := [], laidByText := true, laidKinds := [.wider, .wider], laidTests := true, laidLooks := .later }
def HeaderBackUptoCardSaid : Prop := Claim7.holds Tryz.pinned (.plain (OpenSpec.upto headerBackSpec)) headerBackUptoCard

/-- THE SECOND FORM's CARD OF 'spindlelaw10.HeaderOnly'. -/
def headerOnlyUptoCard : Claim7 := { stood := { row := headerOnlyUptoRow, standIns := [], harness := (true, "c14e8915c62331e96e7758608f9a4bc280a0db756d404230e29d7f866c6ebdda"), looks := false }, kinds := [], alts := [], laidByText := true, laidKinds := [.wider, .wider], laidTests := true, laidLooks := .later }
def HeaderOnlyUptoCardSaid : Prop := Claim7.holds Tryz.pinned (.plain (OpenSpec.upto headerOnlySpec)) headerOnlyUptoCard
end Rows
end Go.Proofs.YtojahafmfcfpaaaGreatDoor
