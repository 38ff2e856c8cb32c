/- MarksReads: for any string and any number. -/
import Derived.Test.YtdkmeldcpamnnaaDoorGReadsW
import Derived.Test.YtdkmeldcpamnnaaDoorGChecks
import Derived.ShutString
namespace Go.Proofs.YtdkmeldcpamnnaaDoor
open Go.RowKit Go.ChangeShapes Go.WideShapes Go.ChangeAt
open Go.ChangeMaps (open_string shut_string)

set_option maxRecDepth 100000 in
theorem marksReads_core {H : Type} {enc : TypeId × Value → H} (W : World) (base : Nat) (hV : Vars W)
    (v0 : Value) (d0 : DataW H) (p0 : List MemPlace) (k0 : Value.okWide Tryd.prog W .any base 9 v0) (h0 : DataW.Trod enc Tryd.prog W 0 (fun _ => true) true 9 v0 d0 p0)
    (v1 : Value) (d1 : DataW H) (p1 : List MemPlace) (k1 : Value.okWide Tryd.prog W .any base 3 v1) (h1 : DataW.Trod enc Tryd.prog W 0 (fun _ => true) true 3 v1 d1 p1) :
    Calls Tryd.prog 4 #[v0, v1] W fun e w' => e = .returned (.bool true) ∧ Below W.heap.size W w' := by
  obtain ⟨s, rfl, rfl, rfl, w0⟩ := open_string Tryd.underlying9 k0 h0
  obtain ⟨n, rfl, n0, n1⟩ := open_intM h1 base k1
  exact (mreads_any s n W hV w0 n0 n1).mono fun e w' ⟨he, ho⟩ => ⟨he, ho.below (Nat.le_refl _) (by simp)⟩
end Go.Proofs.YtdkmeldcpamnnaaDoor
