/-
  DERIVED. GIVEN WITH THE SEED: THE CARDS: each row of YtpmmnjeomdjakaaDoorRows.lean that lists a variable, with what it lists TIED to the program's text (the seventh form; the later family's looks); each row that meets fmt, with fmt's text TOLD by the authors' own Lean function (tested against real Go, not proved from fmt's source: count such statements apart). THE CARD IS WHAT COUNTS. Prove the row's statement (the work); the ties are given (YtpmmnjeomdjakaaDoorTie.lean); close each card by the builder's one call (the guide's Derived/Test/ToyasCard.lean, 'card_holds'). Laid BY PROGRAM, IN A SANDBOX (cutbox-door.mjs). By AI agents, Wed Nov 11 2026. No macro, syntax, notation, axiom, sorry.
-/
import Derived.Test.YtpmmnjeomdjakaaDoorRows
import GoSem.ClaimSeven
namespace Go.Proofs.YtpmmnjeomdjakaaDoor
namespace Rows

/-- THE TIED CARD OF 'spindlelaw13.MbChecks'. -/
def mbChecksCard : Claim7 := { stood := { row := mbChecksRow, standIns := [], harness := (true, "a0620f7a8a98ee54b641f5360f2002cac6a74123fd829dcf1589a74d08ddc57d"), looks := false }, kinds := [], alts := [], laidByText := true, laidKinds := [.data, .data], laidTests := true, laidLooks := .later }
def MbChecksCardSaid : Prop := Claim7.holds Tryd.pinned (.plain (OpenSpec.ofChange mbChecksSpec)) mbChecksCard

/-- THE TIED CARD OF 'spindlelaw13.MbEquals'. -/
def mbEqualsCard : Claim7 := { stood := { row := mbEqualsRow, standIns := [], harness := (true, "a0620f7a8a98ee54b641f5360f2002cac6a74123fd829dcf1589a74d08ddc57d"), looks := false }, kinds := [], alts := [], laidByText := true, laidKinds := [.data, .data], laidTests := true, laidLooks := .later }
def MbEqualsCardSaid : Prop := Claim7.holds Tryd.pinned (.plain (OpenSpec.ofChange mbEqualsSpec)) mbEqualsCard

/-- THE TIED CARD OF 'spindlelaw13.MbExamples'. -/
def mbExamplesCard : Claim7 := { stood := { row := mbExamplesRow, standIns := [], harness := (true, "a0620f7a8a98ee54b641f5360f2002cac6a74123fd829dcf1589a74d08ddc57d"), looks := false }, kinds := [], alts := [], laidByText := true, laidKinds := [.data, .data], laidTests := true, laidLooks := .later }
def MbExamplesCardSaid : Prop := Claim7.holds Tryd.pinned (.plain (OpenSpec.ofChange mbExamplesSpec)) mbExamplesCard

/-- THE TIED CARD OF 'spindlelaw13.MbSpoils'. -/
def mbSpoilsCard : Claim7 := { stood := { row := mbSpoilsRow, standIns := [], harness := (true, "a0620f7a8a98ee54b641f5360f2002cac6a74123fd829dcf1589a74d08ddc57d"), looks := false }, kinds := [], alts := [], laidByText := true, laidKinds := [.data, .data], laidTests := true, laidLooks := .later }
def MbSpoilsCardSaid : Prop := Claim7.holds Tryd.pinned (.plain (OpenSpec.ofChange mbSpoilsSpec)) mbSpoilsCard

/-- THE TIED CARD OF 'spindlelaw13.MbLists'. -/
def mbListsCard : Claim7 := { stood := { row := mbListsRow, standIns := [], harness := (true, "a0620f7a8a98ee54b641f5360f2002cac6a74123fd829dcf1589a74d08ddc57d"), looks := false }, kinds := [], alts := [], laidByText := true, laidKinds := [.data, .data], laidTests := true, laidLooks := .later }
def MbListsCardSaid : Prop := Claim7.holds Tryd.pinned (.plain (OpenSpec.ofChange mbListsSpec)) mbListsCard

/-- THE TIED CARD OF 'spindlelaw13.MbWider'. -/
def mbWiderCard : Claim7 := { stood := { row := mbWiderRow, standIns := [], harness := (true, "a0620f7a8a98ee54b641f5360f2002cac6a74123fd829dcf1589a74d08ddc57d"), looks := false }, kinds := [], alts := [], laidByText := true, laidKinds := [.data, .data], laidTests := true, laidLooks := .later }
def MbWiderCardSaid : Prop := Claim7.holds Tryd.pinned (.plain (OpenSpec.ofChange mbWiderSpec)) mbWiderCard

/-- THE SECOND FORM's CARD OF 'spindlelaw13.MbChecks'. -/
def mbChecksUptoCard : Claim7 := { stood := { row := mbChecksUptoRow, standIns := [], harness := (true, "a0620f7a8a98ee54b641f5360f2002cac6a74123fd829dcf1589a74d08ddc57d"), looks := false }, kinds := [], alts := [], laidByText := true, laidKinds := [.data, .data], laidTests := true, laidLooks := .later }
def MbChecksUptoCardSaid : Prop := Claim7.holds Tryd.pinned (.plain (OpenSpec.upto mbChecksSpec)) mbChecksUptoCard

/-- THE SECOND FORM's CARD OF 'spindlelaw13.MbEquals'. -/
def mbEqualsUptoCard : Claim7 := { stood := { row := mbEqualsUptoRow, standIns := [], harness := (true, "a0620f7a8a98ee54b641f5360f2002cac6a74123fd829dcf1589a74d08ddc57d"), looks := false }, kinds := [], alts := [], laidByText := true, laidKinds := [.data, .data], laidTests := true, laidLooks := .later }
def MbEqualsUptoCardSaid : Prop := Claim7.holds Tryd.pinned (.plain (OpenSpec.upto mbEqualsSpec)) mbEqualsUptoCard

/-- THE SECOND FORM's CARD OF 'spindlelaw13.MbExamples'. -/
def mbExamplesUptoCard : Claim7 := { stood := { row := mbExamplesUptoRow, standIns := [], harness := (true, "a0620f7a8a98ee54b641f5360f2002cac6a74123fd829dcf1589a74d08ddc57d"), looks := false }, kinds := [], alts := [], laidByText := true, laidKinds := [.data, .data], laidTests := true, laidLooks := .later }
def MbExamplesUptoCardSaid : Prop := Claim7.holds Tryd.pinned (.plain (OpenSpec.upto mbExamplesSpec)) mbExamplesUptoCard

/-- THE SECOND FORM's CARD OF 'spindlelaw13.MbSpoils'. -/
def mbSpoilsUptoCard : Claim7 := { stood := { row := mbSpoilsUptoRow, standIns := [], harness := (true, "a0620f7a8a98ee54b641f5360f2002cac6a74123fd829dcf1589a74d08ddc57d"), looks := false }, kinds := [], alts := [], laidByText := true, laidKinds := [.data, .data], laidTests := true, laidLooks := .later }
def MbSpoilsUptoCardSaid : Prop := Claim7.holds Tryd.pinned (.plain (OpenSpec.upto mbSpoilsSpec)) mbSpoilsUptoCard

/-- THE SECOND FORM's CARD OF 'spindlelaw13.MbLists'. -/
def mbListsUptoCard : Claim7 := { stood := { row := mbListsUptoRow, standIns := [], harness := (true, "a0620f7a8a98ee54b641f5360f2002cac6a74123fd829dcf1589a74d08ddc57d"), looks := false }, kinds := [], alts := [], laidByText := true, laidKinds := [.data, .data], laidTests := true, laidLooks := .later }
def MbListsUptoCardSaid : Prop := Claim7.holds Tryd.pinned (.plain (OpenSpec.upto mbListsSpec)) mbListsUptoCard

/-- THE SECOND FORM's CARD OF 'spindlelaw13.MbWider'. -/
def mbWiderUptoCard : Claim7 := { stood := { row := mbWiderUptoRow, standIns := [], harness := (true, "a0620f7a8a98ee54b641f5360f2002cac6a74123fd829dcf1589a74d08ddc57d"), looks := false }, kinds := [], alts := [], laidByText := true, laidKinds := [.data, .data], laidTests := true, laidLooks := .later }
def MbWiderUptoCardSaid : Prop := Claim7.holds Tryd.pinned (.plain (OpenSpec.upto mbWiderSpec)) mbWiderUptoCard
end Rows
end Go.Proofs.YtpmmnjeomdjakaaDoor
