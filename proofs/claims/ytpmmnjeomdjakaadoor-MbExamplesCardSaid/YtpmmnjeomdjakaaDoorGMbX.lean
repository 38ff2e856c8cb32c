/- MbExamples. -/
import Derived.Test.YtpmmnjeomdjakaaDoorMmb6
import Derived.Test.YtpmmnjeomdjakaaDoorMhC
import Derived.ProofKit
import Derived.OpenShut
import Derived.ChangeSame
import Derived.Below
namespace Go.Proofs.YtpmmnjeomdjakaaDoor
open Go.RowKit Go.ChangeShapes Go.WideShapes Go.ChangeAt Go.Deep
set_option linter.unusedVariables false

theorem mbExamples_core (W : World) (base : Nat) (hV : MbV W) :
    Calls Tryd.prog 5 #[] W fun e w' => e = .returned (.bool true) ∧ Below W.heap.size W w' :=
  (mbexamples_any W hV).mono fun e w' ⟨he, ho⟩ => ⟨he, ho.below (Nat.le_refl _) (by simp)⟩
end Go.Proofs.YtpmmnjeomdjakaaDoor
