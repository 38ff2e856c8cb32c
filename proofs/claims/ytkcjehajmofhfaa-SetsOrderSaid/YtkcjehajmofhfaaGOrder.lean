/- SetsOrder: for any list of puts, any number, any two parameter sets. -/
import Derived.Test.YtkcjehajmofhfaaGOrderW
namespace Go.Proofs.Ytkcjehajmofhfaa
open Go.RowKit Go.ChangeShapes Go.WideShapes Go.ChangeAt

theorem open_intS {w : World} {base : Nat} {v : Value} (k : Value.okWide Try.prog w .any base 3 v) : ∃ n, v = .int .i64 n := okWide_int und_int k
theorem setsOrder_core {H : Type} {enc : TypeId × Value → H} (W : World) (base : Nat)
    (v0 : Value) (d0 : DataW H) (p0 : List MemPlace) (k0 : Value.okWide Try.prog W .any base 43 v0) (h0 : DataW.Trod enc Try.prog W 0 (fun _ => true) true 43 v0 d0 p0)
    (v1 : Value) (d1 : DataW H) (p1 : List MemPlace) (k1 : Value.okWide Try.prog W .any base 3 v1) (h1 : DataW.Trod enc Try.prog W 0 (fun _ => true) true 3 v1 d1 p1)
    (v2 : Value) (d2 : DataW H) (p2 : List MemPlace) (k2 : Value.okWide Try.prog W .any base 28 v2) (h2 : DataW.Trod enc Try.prog W 0 (fun _ => true) true 28 v2 d2 p2)
    (v3 : Value) (d3 : DataW H) (p3 : List MemPlace) (k3 : Value.okWide Try.prog W .any base 30 v3) (h3 : DataW.Trod enc Try.prog W 0 (fun _ => true) true 30 v3 d3 p3) :
    Calls Try.prog 6 #[v0, v1, v2, v3] W fun e w' => e = .returned (.bool true) ∧ Below W.heap.size W w' := by
  obtain ⟨l0, hl0⟩ := open_puts k0 h0
  obtain ⟨n, rfl⟩ := open_intS k1
  obtain ⟨x, rfl⟩ := open_sps k2 h2
  obtain ⟨y, rfl⟩ := open_pps k3 h3
  exact (setsOrder_walk W v0 l0 n x y hl0).mono fun e w' ⟨he, ho⟩ => ⟨he, ho.below (Nat.le_refl _) (by simp)⟩
end Go.Proofs.Ytkcjehajmofhfaa
