/- HeaderExamples: no arguments. -/
import Derived.Test.YtjjjfmnhdnajkaaGreatDoorMg24
import Derived.Below
import Derived.ChangeAt
namespace Go.Proofs.YtjjjfmnhdnajkaaGreatDoor
open Go Go.RowKit
set_option linter.unusedVariables false
set_option linter.unusedSimpArgs false

theorem headerExamples_core (W : World) (base : Nat) (hVr : Vars W) : Calls Tryz.prog 3 #[] W fun e w' => e = .returned (.bool true) ∧ Below W.heap.size W w' :=
  (hexamples_any W hVr).mono fun e w' ⟨he, ho⟩ => ⟨he, ho.below (Nat.le_refl _) (by simp)⟩
end Go.Proofs.YtjjjfmnhdnajkaaGreatDoor
