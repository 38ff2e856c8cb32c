/-
  DERIVED. GIVEN WITH THE SEED: THE CARDS: each row of YtojahafmfcfpaaaDoorRows.lean that lists a variable, with what it lists TIED to the program's text (the seventh form; the later family's looks); each row that meets fmt, with fmt's text TOLD by the authors' own Lean function (tested against real Go, not proved from fmt's source: count such statements apart). THE CARD IS WHAT COUNTS. Prove the row's statement (the work); the ties are given (YtojahafmfcfpaaaDoorTie.lean); close each card by the builder's one call (the guide's Derived/Test/ToyasCard.lean, 'card_holds'). Laid BY PROGRAM, IN A SANDBOX (cutbox-door.mjs). By AI agents, Wed Nov 11 2026. No macro, syntax, notation, axiom, sorry.
-/
import Derived.Test.YtojahafmfcfpaaaDoorRows
import GoSem.ClaimSeven
namespace Go.Proofs.YtojahafmfcfpaaaDoor
namespace Rows

/-- THE TIED CARD OF 'spindlelaw10.HeaderApart'. -/
def headerApartCard : Claim7 := { stood := { row := headerApartRow, standIns := [], harness := (true, "050b79941d1a859dc4266dd1e773bc35f8ecc4bae11484f78bed97b8839eb611"), looks := false }, kinds := [], alts := [], laidByText := true, laidKinds := [.wider, .wider], laidTests := true, laidLooks := .later }
def HeaderApartCardSaid : Prop := Claim7.holds Tryd.pinned (.plain (OpenSpec.ofChange headerApartSpec)) headerApartCard

/-- THE TIED CARD OF 'spindlelaw10.HeaderCabac'. -/
def headerCabacCard : Claim7 := { stood := { row := headerCabacRow, standIns := [], harness := (true, "050b79941d1a859dc4266dd1e773bc35f8ecc4bae11484f78bed97b8839eb611"), looks := false }, kinds := [], alts := [], laidByText := true, laidKinds := [.wider, .wider], laidTests := true, laidLooks := .later }
def HeaderCabacCardSaid : Prop := Claim7.holds Tryd.pinned (.plain (OpenSpec.ofChange headerCabacSpec)) headerCabacCard

/-- THE SECOND FORM's CARD OF 'spindlelaw10.HeaderApart'. -/
def headerApartUptoCard : Claim7 := { stood := { row := headerApartUptoRow, standIns := [], harness := (true, "050b79941d1a859dc4266dd1e773bc35f8ecc4bae11484f78bed97b8839eb611"), looks := false }, kinds := [], alts := [], laidByText := true, laidKinds := [.wider, .wider], laidTests := true, laidLooks := .later }
def HeaderApartUptoCardSaid : Prop := Claim7.holds Tryd.pinned (.plain (OpenSpec.upto headerApartSpec)) headerApartUptoCard

/-- THE SECOND FORM's CARD OF 'spindlelaw10.HeaderCabac'. -/
def headerCabacUptoCard : Claim7 := { stood := { row := headerCabacUptoRow, standIns := [], harness := (true, "050b79941d1a859dc4266dd1e773bc35f8ecc4bae11484f78bed97b8839eb611"), looks := false }, kinds := [], alts := [], laidByText := true, laidKinds := [.wider, .wider], laidTests := true, laidLooks := .later }
def HeaderCabacUptoCardSaid : Prop := Claim7.holds Tryd.pinned (.plain (OpenSpec.upto headerCabacSpec)) headerCabacUptoCard
end Rows
end Go.Proofs.YtojahafmfcfpaaaDoor
