/- SetsExamples: it takes no arguments. -/
import Derived.Test.YtkcjehajmofhfaaGExamplesW
namespace Go.Proofs.Ytkcjehajmofhfaa
open Go.RowKit

theorem setsExamples_core (W : World) (_base : Nat) :
    Calls Try.prog 4 #[] W fun e w' => e = .returned (.bool true) ∧ Below W.heap.size W w' :=
  (setsExamples_walk W).mono fun e w' ⟨he, ho⟩ => ⟨he, ho.below (Nat.le_refl _) (by simp)⟩
end Go.Proofs.Ytkcjehajmofhfaa
