/- HeaderCabac: for any header, unit and numbers. -/
import Derived.Test.YtojahafmfcfpaaaDoorHnC
import Derived.Test.YtojahafmfcfpaaaDoorHnO
import Derived.ShutString
namespace Go.Proofs.YtojahafmfcfpaaaDoor
open Go.RowKit Go.ChangeShapes Go.WideShapes Go.ChangeAt Go.Deep
open Go.ChangeMaps (open_string shut_string)
set_option linter.unusedVariables false
set_option linter.unusedSimpArgs false
set_option maxRecDepth 100000

theorem headerCabac_core {H : Type} {enc : TypeId × Value → H} (W : World) (base : Nat) (hV : Vars W)
    (v0 : Value) (d0 : DataW H) (p0 : List MemPlace) (k0 : Value.okWide Tryd.prog W .any base 25 v0) (h0 : DataW.Trod enc Tryd.prog W 0 (fun _ => true) true 25 v0 d0 p0)
    (v1 : Value) (d1 : DataW H) (p1 : List MemPlace) (k1 : Value.okWide Tryd.prog W .any base 31 v1) (h1 : DataW.Trod enc Tryd.prog W 0 (fun _ => true) true 31 v1 d1 p1)
    (v2 : Value) (d2 : DataW H) (p2 : List MemPlace) (k2 : Value.okWide Tryd.prog W .any base 32 v2) (h2 : DataW.Trod enc Tryd.prog W 0 (fun _ => true) true 32 v2 d2 p2) :
    Calls Tryd.prog 4 #[v0, v1, v2] W fun e w' => e = .returned (.bool true) ∧ Below W.heap.size W w' := by
  obtain ⟨y, mv, kv, rfl, j0, l0, o0, n0, q0, r0⟩ := open_hdr k0 h0
  obtain ⟨un, rfl, ru⟩ := open_unitA k1 h1
  obtain ⟨n, rfl⟩ := open_n8 k2 h2
  exact (hcabac_any y un n mv kv W hV j0 l0 o0 n0 ru).mono fun e w' ⟨he, ho⟩ => ⟨he, ho.below (Nat.le_refl _) (by simp)⟩
end Go.Proofs.YtojahafmfcfpaaaDoor
