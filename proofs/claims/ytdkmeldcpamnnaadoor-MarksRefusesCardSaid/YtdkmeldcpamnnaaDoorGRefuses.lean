/- MarksRefuses: for any kind, any list, any two numbers. -/
import Derived.Test.YtdkmeldcpamnnaaDoorGRefusesW
import Derived.Test.YtdkmeldcpamnnaaDoorGChecks
namespace Go.Proofs.YtdkmeldcpamnnaaDoor
open Go.RowKit Go.ChangeShapes Go.WideShapes Go.ChangeAt

set_option maxRecDepth 100000 in
theorem marksRefuses_core {H : Type} {enc : TypeId × Value → H} (W : World) (base : Nat) (hV : Vars W)
    (v0 : Value) (d0 : DataW H) (p0 : List MemPlace) (k0 : Value.okWide Tryd.prog W .any base 4 v0) (h0 : DataW.Trod enc Tryd.prog W 0 (fun _ => true) true 4 v0 d0 p0)
    (v1 : Value) (d1 : DataW H) (p1 : List MemPlace) (k1 : Value.okWide Tryd.prog W .any base 22 v1) (h1 : DataW.Trod enc Tryd.prog W 0 (fun _ => true) true 22 v1 d1 p1)
    (v2 : Value) (d2 : DataW H) (p2 : List MemPlace) (k2 : Value.okWide Tryd.prog W .any base 3 v2) (h2 : DataW.Trod enc Tryd.prog W 0 (fun _ => true) true 3 v2 d2 p2)
    (v3 : Value) (d3 : DataW H) (p3 : List MemPlace) (k3 : Value.okWide Tryd.prog W .any base 3 v3) (h3 : DataW.Trod enc Tryd.prog W 0 (fun _ => true) true 3 v3 d3 p3) :
    Calls Tryd.prog 8 #[v0, v1, v2, v3] W fun e w' => e = .returned (.bool true) ∧ Below W.heap.size W w' := by
  obtain ⟨m, rfl, rfl, rfl⟩ := open_bool Tryd.underlying4 k0 h0
  obtain ⟨la, ha, hka⟩ := open_mods k1 h1
  obtain ⟨a, rfl, a0, a1⟩ := open_intM h2 base k2
  obtain ⟨n, rfl, n0, n1⟩ := open_intM h3 base k3
  exact (mrefuses_any m v1 la a n W hV ha hka a0 a1 n0 n1).mono fun e w' ⟨he, ho⟩ => ⟨he, ho.below (Nat.le_refl _) (by simp)⟩
end Go.Proofs.YtdkmeldcpamnnaaDoor
