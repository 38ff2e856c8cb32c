/-
  DERIVED. GIVEN WITH THE SEED: THE PROGRAM's TIES (one call each: nine closed facts by the kernel) AND EACH ROW's TIE, after the 31st guide's Derived/Test/Toyas{Tie, Card}.lean. No idea stands in it: it is a product of the set-up. Laid BY PROGRAM, IN A SANDBOX (cutbox-door.mjs). By AI agents, Wed Nov 11 2026. No macro, syntax, notation, axiom, sorry.
-/
import Derived.Test.YtjjjfmnhdnajkaaGreatDoorRows
import Derived.LaidByTextLater
import Derived.SevenTiedAt
import Derived.LaidSub
import Derived.LaidOnce
namespace Go.Proofs.YtjjjfmnhdnajkaaGreatDoor
open Go
set_option maxRecDepth 100000
theorem seatTie1 : Tryz.prog.laidByTextLater [("spindle/marks.modifications", Rows.laid_spindle_marks_modifications), ("spindle/marks.markings", Rows.laid_spindle_marks_markings)] [.wider, .wider] true :=
  Program.laidByTextLater_by_one 21 8 9 (by kernel_rfl) (by kernel_rfl) (by kernel_rfl) (by kernel_rfl) (by kernel_rfl) (by kernel_rfl) (fun _ _ => by kernel_rfl)
theorem noOwnUnsafe : Tryz.pinned.checked.prog.headLifts.contains "ownunsafe" = false := by kernel_rfl
theorem tie : Tryz.prog.laidByTextLater [("spindle/marks.modifications", Rows.laid_spindle_marks_modifications), ("spindle/marks.markings", Rows.laid_spindle_marks_markings)] [.wider, .wider] true :=
  Program.laidByTextLater.sub seatTie1 ["spindle/marks.modifications", "spindle/marks.markings"] (by kernel_rfl) (by kernel_rfl)
theorem headerExamples_row_tie : Rows.headerExamplesRow.laidByTextAt .later Tryz.pinned [.wider, .wider] true :=
  OpenClaim.laidByTextAt_later rfl rfl tie noOwnUnsafe
theorem headerExamplesUpto_row_tie : Rows.headerExamplesUptoRow.laidByTextAt .later Tryz.pinned [.wider, .wider] true :=
  OpenClaim.laidByTextAt_later rfl rfl tie noOwnUnsafe
end Go.Proofs.YtjjjfmnhdnajkaaGreatDoor
