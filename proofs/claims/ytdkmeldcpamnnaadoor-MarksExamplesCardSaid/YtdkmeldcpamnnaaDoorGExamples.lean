/- MarksExamples: no arguments. -/
import Derived.Test.YtdkmeldcpamnnaaDoorGExamplesW
import Derived.Test.YtdkmeldcpamnnaaDoorGChecks
namespace Go.Proofs.YtdkmeldcpamnnaaDoor
open Go.RowKit Go.ChangeShapes Go.WideShapes Go.ChangeAt
set_option maxRecDepth 100000 in
theorem marksExamples_core (W : World) (_base : Nat) (hV : Vars W) : Calls Tryd.prog 5 #[] W fun e w' => e = .returned (.bool true) ∧ Below W.heap.size W w' :=
  (mexamples_any W hV).mono fun e w' ⟨he, ho⟩ => ⟨he, ho.below (Nat.le_refl _) (by simp)⟩
end Go.Proofs.YtdkmeldcpamnnaaDoor
