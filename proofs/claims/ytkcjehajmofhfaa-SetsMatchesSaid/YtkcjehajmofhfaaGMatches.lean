/- SetsMatches: for any list of calls. -/
import Derived.Test.YtkcjehajmofhfaaGMatchesW
namespace Go.Proofs.Ytkcjehajmofhfaa
open Go.RowKit Go.ChangeShapes Go.WideShapes Go.ChangeAt

theorem setsMatches_core {H : Type} {enc : TypeId × Value → H} (W : World) (base : Nat)
    (v0 : Value) (d0 : DataW H) (p0 : List MemPlace) (k0 : Value.okWide Try.prog W .any base 22 v0) (h0 : DataW.Trod enc Try.prog W 0 (fun _ => true) true 22 v0 d0 p0) :
    Calls Try.prog 3 #[v0] W fun e w' => e = .returned (.bool true) ∧ Below W.heap.size W w' := by
  obtain ⟨l0, hl0, hk0⟩ := open_acts k0 h0
  exact (setsMatches_walk W v0 l0 hl0 hk0).mono fun e w' ⟨he, ho⟩ => ⟨he, ho.below (Nat.le_refl _) (by simp)⟩
end Go.Proofs.Ytkcjehajmofhfaa
