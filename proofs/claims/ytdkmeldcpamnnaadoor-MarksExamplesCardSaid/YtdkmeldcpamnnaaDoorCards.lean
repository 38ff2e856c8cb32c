/-
  DERIVED. GIVEN WITH THE SEED: THE CARDS: each row of YtdkmeldcpamnnaaDoorRows.lean that lists a variable, with what it lists TIED to the program's text (the seventh form; the later family's looks); each row that meets fmt, with fmt's text TOLD by the authors' own Lean function (tested against real Go, not proved from fmt's source: count such statements apart). THE CARD IS WHAT COUNTS. Prove the row's statement (the work); the ties are given (YtdkmeldcpamnnaaDoorTie.lean); close each card by the builder's one call (the guide's Derived/Test/ToyasCard.lean, 'card_holds'). Laid BY PROGRAM, IN A SANDBOX (cutbox-door.mjs). By AI agents, Wed Nov 11 2026. No macro, syntax, notation, axiom, sorry.
-/
import Derived.Test.YtdkmeldcpamnnaaDoorRows
import GoSem.ClaimSeven
namespace Go.Proofs.YtdkmeldcpamnnaaDoor
namespace Rows

/-- THE TIED CARD OF 'spindlelaw09.MarksChecks'. -/
def marksChecksCard : Claim7 := { stood := { row := marksChecksRow, standIns := [], harness := (true, "af4ccec81de06006c423d649a2f4a384abfb7590caa6f439362163d84694b86c"), looks := false }, kinds := [], alts := [], laidByText := true, laidKinds := [.wider, .wider], laidTests := true, laidLooks := .later }
def MarksChecksCardSaid : Prop := Claim7.holds Tryd.pinned (.plain (OpenSpec.ofChange marksChecksSpec)) marksChecksCard

/-- THE TIED CARD OF 'spindlelaw09.MarksReads'. -/
def marksReadsCard : Claim7 := { stood := { row := marksReadsRow, standIns := [], harness := (true, "af4ccec81de06006c423d649a2f4a384abfb7590caa6f439362163d84694b86c"), looks := false }, kinds := [], alts := [], laidByText := true, laidKinds := [.wider, .wider], laidTests := true, laidLooks := .later }
def MarksReadsCardSaid : Prop := Claim7.holds Tryd.pinned (.plain (OpenSpec.ofChange marksReadsSpec)) marksReadsCard

/-- THE TIED CARD OF 'spindlelaw09.MarksExamples'. -/
def marksExamplesCard : Claim7 := { stood := { row := marksExamplesRow, standIns := [], harness := (true, "af4ccec81de06006c423d649a2f4a384abfb7590caa6f439362163d84694b86c"), looks := false }, kinds := [], alts := [], laidByText := true, laidKinds := [.wider, .wider], laidTests := true, laidLooks := .later }
def MarksExamplesCardSaid : Prop := Claim7.holds Tryd.pinned (.plain (OpenSpec.ofChange marksExamplesSpec)) marksExamplesCard

/-- THE TIED CARD OF 'spindlelaw09.MarksBack'. -/
def marksBackCard : Claim7 := { stood := { row := marksBackRow, standIns := [], harness := (true, "af4ccec81de06006c423d649a2f4a384abfb7590caa6f439362163d84694b86c"), looks := false }, kinds := [], alts := [], laidByText := true, laidKinds := [.wider, .wider], laidTests := true, laidLooks := .later }
def MarksBackCardSaid : Prop := Claim7.holds Tryd.pinned (.plain (OpenSpec.ofChange marksBackSpec)) marksBackCard

/-- THE TIED CARD OF 'spindlelaw09.MarksApart'. -/
def marksApartCard : Claim7 := { stood := { row := marksApartRow, standIns := [], harness := (true, "af4ccec81de06006c423d649a2f4a384abfb7590caa6f439362163d84694b86c"), looks := false }, kinds := [], alts := [], laidByText := true, laidKinds := [.wider, .wider], laidTests := true, laidLooks := .later }
def MarksApartCardSaid : Prop := Claim7.holds Tryd.pinned (.plain (OpenSpec.ofChange marksApartSpec)) marksApartCard

/-- THE TIED CARD OF 'spindlelaw09.MarksRefuses'. -/
def marksRefusesCard : Claim7 := { stood := { row := marksRefusesRow, standIns := [], harness := (true, "af4ccec81de06006c423d649a2f4a384abfb7590caa6f439362163d84694b86c"), looks := false }, kinds := [], alts := [], laidByText := true, laidKinds := [.wider, .wider], laidTests := true, laidLooks := .later }
def MarksRefusesCardSaid : Prop := Claim7.holds Tryd.pinned (.plain (OpenSpec.ofChange marksRefusesSpec)) marksRefusesCard

/-- THE SECOND FORM's CARD OF 'spindlelaw09.MarksChecks'. -/
def marksChecksUptoCard : Claim7 := { stood := { row := marksChecksUptoRow, standIns := [], harness := (true, "af4ccec81de06006c423d649a2f4a384abfb7590caa6f439362163d84694b86c"), looks := false }, kinds := [], alts := [], laidByText := true, laidKinds := [.wider, .wider], laidTests := true, laidLooks := .later }
def MarksChecksUptoCardSaid : Prop := Claim7.holds Tryd.pinned (.plain (OpenSpec.upto marksChecksSpec)) marksChecksUptoCard

/-- THE SECOND FORM's CARD OF 'spindlelaw09.MarksReads'. -/
def marksReadsUptoCard : Claim7 := { stood := { row := marksReadsUptoRow, standIns := [], harness := (true, "af4ccec81de06006c423d649a2f4a384abfb7590caa6f439362163d84694b86c"), looks := false }, kinds := [], alts := [], laidByText := true, laidKinds := [.wider, .wider], laidTests := true, laidLooks := .later }
def MarksReadsUptoCardSaid : Prop := Claim7.holds Tryd.pinned (.plain (OpenSpec.upto marksReadsSpec)) marksReadsUptoCard

/-- THE SECOND FORM's CARD OF 'spindlelaw09.MarksExamples'. -/
def marksExamplesUptoCard : Claim7 := { stood := { row := marksExamplesUptoRow, standIns := [], harness := (true, "af4ccec81de06006c423d649a2f4a384abfb7590caa6f439362163d84694b86c"), looks := false }, kinds := [], alts := [], laidByText := true, laidKinds := [.wider, .wider], laidTests := true, laidLooks := .later }
def MarksExamplesUptoCardSaid : Prop := Claim7.holds Tryd.pinned (.plain (OpenSpec.upto marksExamplesSpec)) marksExamplesUptoCard

/-- THE SECOND FORM's CARD OF 'spindlelaw09.MarksBack'. -/
def marksBackUptoCard : Claim7 := { stood := { row := marksBackUptoRow, standIns := [], harness := (true, "af4ccec81de06006c423d649a2f4a384abfb7590caa6f439362163d84694b86c"), looks := false }, kinds := [], alts := [], laidByText := true, laidKinds := [.wider, .wider], laidTests := true, laidLooks := .later }
def MarksBackUptoCardSaid : Prop := Claim7.holds Tryd.pinned (.plain (OpenSpec.upto marksBackSpec)) marksBackUptoCard

/-- THE SECOND FORM's CARD OF 'spindlelaw09.MarksApart'. -/
def marksApartUptoCard : Claim7 := { stood := { row := marksApartUptoRow, standIns := [], harness := (true, "af4ccec81de06006c423d649a2f4a384abfb7590caa6f439362163d84694b86c"), looks := false }, kinds := [], alts := [], laidByText := true, laidKinds := [.wider, .wider], laidTests := true, laidLooks := .later }
def MarksApartUptoCardSaid : Prop := Claim7.holds Tryd.pinned (.plain (OpenSpec.upto marksApartSpec)) marksApartUptoCard

/-- THE SECOND FORM's CARD OF 'spindlelaw09.MarksRefuses'. -/
def marksRefusesUptoCard : Claim7 := { stood := { row := marksRefusesUptoRow, standIns := [], harness := (true, "af4ccec81de06006c423d649a2f4a384abfb7590caa6f439362163d84694b86c"), looks := false }, kinds := [], alts := [], laidByText := true, laidKinds := [.wider, .wider], laidTests := true, laidLooks := .later }
def MarksRefusesUptoCardSaid : Prop := Claim7.holds Tryd.pinned (.plain (OpenSpec.upto marksRefusesSpec)) marksRefusesUptoCard
end Rows
end Go.Proofs.YtdkmeldcpamnnaaDoor
