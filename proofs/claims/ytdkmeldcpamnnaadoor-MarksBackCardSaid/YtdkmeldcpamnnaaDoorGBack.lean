/- MarksBack: for any kind, any list, any number, any string. -/
import Derived.Test.YtdkmeldcpamnnaaDoorGBackW
import Derived.Test.YtdkmeldcpamnnaaDoorGChecks
import Derived.ShutString
namespace Go.Proofs.YtdkmeldcpamnnaaDoor
open Go.RowKit Go.ChangeShapes Go.WideShapes Go.ChangeAt
open Go.ChangeMaps (open_string shut_string)

set_option maxRecDepth 100000 in
theorem marksBack_core {H : Type} {enc : TypeId × Value → H} (W : World) (base : Nat) (hV : Vars W)
    (v0 : Value) (d0 : DataW H) (p0 : List MemPlace) (k0 : Value.okWide Tryd.prog W .any base 4 v0) (h0 : DataW.Trod enc Tryd.prog W 0 (fun _ => true) true 4 v0 d0 p0)
    (v1 : Value) (d1 : DataW H) (p1 : List MemPlace) (k1 : Value.okWide Tryd.prog W .any base 22 v1) (h1 : DataW.Trod enc Tryd.prog W 0 (fun _ => true) true 22 v1 d1 p1)
    (v2 : Value) (d2 : DataW H) (p2 : List MemPlace) (k2 : Value.okWide Tryd.prog W .any base 3 v2) (h2 : DataW.Trod enc Tryd.prog W 0 (fun _ => true) true 3 v2 d2 p2)
    (v3 : Value) (d3 : DataW H) (p3 : List MemPlace) (k3 : Value.okWide Tryd.prog W .any base 9 v3) (h3 : DataW.Trod enc Tryd.prog W 0 (fun _ => true) true 9 v3 d3 p3) :
    Calls Tryd.prog 6 #[v0, v1, v2, v3] W fun e w' => e = .returned (.bool true) ∧ Below W.heap.size W w' := by
  obtain ⟨m, rfl, rfl, rfl⟩ := open_bool Tryd.underlying4 k0 h0
  obtain ⟨l, hl, ho⟩ := open_mods k1 h1
  obtain ⟨n, rfl, n0, n1⟩ := open_intM h2 base k2
  obtain ⟨s, rfl, rfl, rfl, w0⟩ := open_string Tryd.underlying9 k3 h3
  exact (mback_any m v1 l n s W hV hl ho n0 n1 w0).mono fun e w' ⟨he, ho⟩ => ⟨he, ho.below (Nat.le_refl _) (by simp)⟩
end Go.Proofs.YtdkmeldcpamnnaaDoor
