/- MbLists, for whatever comes in. -/
import Derived.Test.YtpmmnjeomdjakaaDoorMmb6
import Derived.Test.YtpmmnjeomdjakaaDoorMgW
import Derived.ProofKit
import Derived.OpenShut
import Derived.ChangeSame
import Derived.Below
namespace Go.Proofs.YtpmmnjeomdjakaaDoor
open Go.RowKit Go.ChangeShapes Go.WideShapes Go.ChangeAt Go.Deep
set_option linter.unusedVariables false

theorem mbLists_core {H : Type} {enc : TypeId × Value → H} (W : World) (base : Nat) (hV : MbV W)
    (v0 : Value) (d0 : DataW H) (p0 : List MemPlace) (k0 : Value.okWide Tryd.prog W .any base 5 v0) (h0 : DataW.Trod enc Tryd.prog W 0 (fun _ => true) true 5 v0 d0 p0)
    (v1 : Value) (d1 : DataW H) (p1 : List MemPlace) (k1 : Value.okWide Tryd.prog W .any base 5 v1) (h1 : DataW.Trod enc Tryd.prog W 0 (fun _ => true) true 5 v1 d1 p1)
    (v2 : Value) (d2 : DataW H) (p2 : List MemPlace) (k2 : Value.okWide Tryd.prog W .any base 3 v2) (h2 : DataW.Trod enc Tryd.prog W 0 (fun _ => true) true 3 v2 d2 p2) :
    Calls Tryd.prog 7 #[v0, v1, v2] W fun e w' => e = .returned (.bool true) ∧ Below W.heap.size W w' := by
  obtain ⟨a, rfl, rfl, rfl, w1⟩ := open_int und_u8v k0 h0
  obtain ⟨b, rfl, rfl, rfl, w2⟩ := open_int und_u8v k1 h1
  obtain ⟨c, rfl, rfl, rfl, w3⟩ := open_int und_intv k2 h2
  have a' := bounds_u8v w1
  have b' := bounds_u8v w2
  have c' := bounds_i64v w3
  exact (mblists_any a b c W hV a'.1 a'.2 b'.1 b'.2 c'.1 c'.2).mono fun e w' ⟨he, ho⟩ => ⟨he, ho.below (Nat.le_refl _) (by simp)⟩
end Go.Proofs.YtpmmnjeomdjakaaDoor
