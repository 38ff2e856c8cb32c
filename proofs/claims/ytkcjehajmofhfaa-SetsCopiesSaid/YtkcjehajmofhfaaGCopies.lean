/- SetsCopies: for any three lists of puts. -/
import Derived.Test.YtkcjehajmofhfaaGCopiesW
namespace Go.Proofs.Ytkcjehajmofhfaa
open Go.RowKit Go.ChangeShapes Go.WideShapes Go.ChangeAt

theorem setsCopies_core {H : Type} {enc : TypeId × Value → H} (W : World) (base : Nat)
    (v0 : Value) (d0 : DataW H) (p0 : List MemPlace) (k0 : Value.okWide Try.prog W .any base 43 v0) (h0 : DataW.Trod enc Try.prog W 0 (fun _ => true) true 43 v0 d0 p0)
    (v1 : Value) (d1 : DataW H) (p1 : List MemPlace) (k1 : Value.okWide Try.prog W .any base 43 v1) (h1 : DataW.Trod enc Try.prog W 0 (fun _ => true) true 43 v1 d1 p1)
    (v2 : Value) (d2 : DataW H) (p2 : List MemPlace) (k2 : Value.okWide Try.prog W .any base 43 v2) (h2 : DataW.Trod enc Try.prog W 0 (fun _ => true) true 43 v2 d2 p2) :
    Calls Try.prog 7 #[v0, v1, v2] W fun e w' => e = .returned (.bool true) ∧ Below W.heap.size W w' := by
  obtain ⟨l0, hl0⟩ := open_puts k0 h0
  obtain ⟨l1, hl1⟩ := open_puts k1 h1
  obtain ⟨l2, hl2⟩ := open_puts k2 h2
  exact (setsCopies_walk W v0 v1 v2 l0 l1 l2 hl0 hl1 hl2).mono fun e w' ⟨he, ho⟩ => ⟨he, ho.below (Nat.le_refl _) (by simp)⟩
end Go.Proofs.Ytkcjehajmofhfaa
