/- SetsLatest: for any list of puts. -/
import Derived.Test.YtkcjehajmofhfaaGLatestW
namespace Go.Proofs.Ytkcjehajmofhfaa
open Go.RowKit Go.ChangeShapes Go.WideShapes Go.ChangeAt

theorem setsLatest_core {H : Type} {enc : TypeId × Value → H} (W : World) (base : Nat)
    (v0 : Value) (d0 : DataW H) (p0 : List MemPlace) (k0 : Value.okWide Try.prog W .any base 43 v0) (h0 : DataW.Trod enc Try.prog W 0 (fun _ => true) true 43 v0 d0 p0) :
    Calls Try.prog 5 #[v0] W fun e w' => e = .returned (.bool true) ∧ Below W.heap.size W w' := by
  obtain ⟨l0, hl0⟩ := open_puts k0 h0
  exact (setsLatest_walk W v0 l0 hl0).mono fun e w' ⟨he, ho⟩ => ⟨he, ho.below (Nat.le_refl _) (by simp)⟩
end Go.Proofs.Ytkcjehajmofhfaa
