/- HeaderApart: for any two headers, unit and numbers. -/
import Derived.Test.YtojahafmfcfpaaaDoorHnE
import Derived.Test.YtojahafmfcfpaaaDoorHnO
import Derived.ShutString
namespace Go.Proofs.YtojahafmfcfpaaaDoor
open Go.RowKit Go.ChangeShapes Go.WideShapes Go.ChangeAt Go.Deep
open Go.ChangeMaps (open_string shut_string)
set_option linter.unusedVariables false
set_option linter.unusedSimpArgs false
set_option maxRecDepth 100000

theorem headerApart_core {H : Type} {enc : TypeId × Value → H} (W : World) (base : Nat) (hV : Vars W)
    (v0 : Value) (d0 : DataW H) (p0 : List MemPlace) (k0 : Value.okWide Tryd.prog W .any base 25 v0) (h0 : DataW.Trod enc Tryd.prog W 0 (fun _ => true) true 25 v0 d0 p0)
    (v1 : Value) (d1 : DataW H) (p1 : List MemPlace) (k1 : Value.okWide Tryd.prog W .any base 25 v1) (h1 : DataW.Trod enc Tryd.prog W 0 (fun _ => true) true 25 v1 d1 p1)
    (v2 : Value) (d2 : DataW H) (p2 : List MemPlace) (k2 : Value.okWide Tryd.prog W .any base 31 v2) (h2 : DataW.Trod enc Tryd.prog W 0 (fun _ => true) true 31 v2 d2 p2)
    (v3 : Value) (d3 : DataW H) (p3 : List MemPlace) (k3 : Value.okWide Tryd.prog W .any base 32 v3) (h3 : DataW.Trod enc Tryd.prog W 0 (fun _ => true) true 32 v3 d3 p3) :
    Calls Tryd.prog 3 #[v0, v1, v2, v3] W fun e w' => e = .returned (.bool true) ∧ Below W.heap.size W w' := by
  obtain ⟨y, mv, kv, rfl, j0, l0, o0, n0, q0, r0⟩ := open_hdr k0 h0
  obtain ⟨z, mw, kw, rfl, j1, l1, o1, n1, q1, r1⟩ := open_hdr k1 h1
  obtain ⟨un, rfl, ru⟩ := open_unitA k2 h2
  obtain ⟨n, rfl⟩ := open_n8 k3 h3
  exact (hapart_any y z un n mv kv mw kw W hV j0 l0 j1 l1 o0 n0 o1 n1 ru).mono fun e w' ⟨he, ho⟩ => ⟨he, ho.below (Nat.le_refl _) (by simp)⟩
end Go.Proofs.YtojahafmfcfpaaaDoor
