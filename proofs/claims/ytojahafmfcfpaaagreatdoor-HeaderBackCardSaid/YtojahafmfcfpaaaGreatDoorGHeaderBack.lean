/- HeaderBack: for any header, unit, numbers and string. -/
import Derived.Test.YtojahafmfcfpaaaGreatDoorHnB
import Derived.Test.YtojahafmfcfpaaaGreatDoorHnO
import Derived.ShutString
namespace Go.Proofs.YtojahafmfcfpaaaGreatDoor
open Go.RowKit Go.ChangeShapes Go.WideShapes Go.ChangeAt Go.Deep
open Go.ChangeMaps (open_string shut_string)
set_option linter.unusedVariables false
set_option linter.unusedSimpArgs false
set_option maxRecDepth 100000

theorem headerBack_core {H : Type} {enc : TypeId × Value → H} (W : World) (base : Nat) (hV : Vars W)
    (v0 : Value) (d0 : DataW H) (p0 : List MemPlace) (k0 : Value.okWide Tryz.prog W .any base 25 v0) (h0 : DataW.Trod enc Tryz.prog W 0 (fun _ => true) true 25 v0 d0 p0)
    (v1 : Value) (d1 : DataW H) (p1 : List MemPlace) (k1 : Value.okWide Tryz.prog W .any base 31 v1) (h1 : DataW.Trod enc Tryz.prog W 0 (fun _ => true) true 31 v1 d1 p1)
    (v2 : Value) (d2 : DataW H) (p2 : List MemPlace) (k2 : Value.okWide Tryz.prog W .any base 75 v2) (h2 : DataW.Trod enc Tryz.prog W 0 (fun _ => true) true 75 v2 d2 p2)
    (v3 : Value) (d3 : DataW H) (p3 : List MemPlace) (k3 : Value.okWide Tryz.prog W .any base 9 v3) (h3 : DataW.Trod enc Tryz.prog W 0 (fun _ => true) true 9 v3 d3 p3) :
    Calls Tryz.prog 6 #[v0, v1, v2, v3] W fun e w' => e = .returned (.bool true) ∧ Below W.heap.size W w' := by
  obtain ⟨y, mv, kv, rfl, j0, l0, o0, n0, q0, r0⟩ := open_hdr k0 h0
  obtain ⟨un, rfl, ru⟩ := open_unitA k1 h1
  obtain ⟨n, rfl⟩ := open_n8 k2 h2
  obtain ⟨s, rfl, rfl, rfl, w0⟩ := open_string Tryz.underlying9 k3 h3
  exact (hback_any y un n mv kv s W hV j0 l0 o0 n0 ru w0).mono fun e w' ⟨he, ho⟩ => ⟨he, ho.below (Nat.le_refl _) (by simp)⟩
end Go.Proofs.YtojahafmfcfpaaaGreatDoor
