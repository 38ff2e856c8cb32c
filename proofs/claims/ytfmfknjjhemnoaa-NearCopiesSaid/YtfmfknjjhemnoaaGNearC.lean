/- NearCopies, its core. -/
import Derived.Test.YtfmfknjjhemnoaaNoA
import Derived.Test.YtfmfknjjhemnoaaNcB
import Derived.Test.YtfmfknjjhemnoaaNcC
import Derived.ProofKit
import Derived.OpenShut
import Derived.ChangeSame
import Derived.Below
namespace Go.Proofs.Ytfmfknjjhemnoaa
open Go.RowKit Go.ChangeShapes Go.WideShapes Go.ChangeAt
set_option linter.unusedVariables false

theorem ncopies_any (f wd : Int) (b : Value) (us : List El) (x : MV) (rv vv bv : Value) (w : World) (hb : LIn w b us) (hm : MAt w x rv vv bv) :
    Calls Try.prog 7 #[.int .i64 f, .int .i64 wd, b, mV x rv vv bv] w fun e w' => e = .returned (.bool true) ∧ Only [] w w' := by
  obtain ⟨s1, s2, s3, rfl, rfl, rfl⟩ := hm.sl
  by_cases h : okN f wd
  · by_cases hn : f + us.length ≤ 8160
    · exact ncopies_yes f wd b us x s1 s2 s3 w hb hm h hn
    · exact ncopies_no f wd b us x s1 s2 s3 w hb hm (.inr hn)
  · exact ncopies_no f wd b us x s1 s2 s3 w hb hm (.inl h)
theorem nearCopies_core {H : Type} {enc : TypeId × Value → H} (W : World) (base : Nat)
    (v0 : Value) (d0 : DataW H) (p0 : List MemPlace) (k0 : Value.okWide Try.prog W .any base 3 v0) (h0 : DataW.Trod enc Try.prog W 0 (fun _ => true) true 3 v0 d0 p0)
    (v1 : Value) (d1 : DataW H) (p1 : List MemPlace) (k1 : Value.okWide Try.prog W .any base 3 v1) (h1 : DataW.Trod enc Try.prog W 0 (fun _ => true) true 3 v1 d1 p1)
    (v2 : Value) (d2 : DataW H) (p2 : List MemPlace) (k2 : Value.okWide Try.prog W .any base 22 v2) (h2 : DataW.Trod enc Try.prog W 0 (fun _ => true) true 22 v2 d2 p2)
    (v3 : Value) (d3 : DataW H) (p3 : List MemPlace) (k3 : Value.okWide Try.prog W .any base 40 v3) (h3 : DataW.Trod enc Try.prog W 0 (fun _ => true) true 40 v3 d3 p3) :
    Calls Try.prog 7 #[v0, v1, v2, v3] W fun e w' => e = .returned (.bool true) ∧ Below W.heap.size W w' := by
  obtain ⟨a, rfl, rfl, rfl, w0⟩ := open_int Try.underlying3 k0 h0
  obtain ⟨b, rfl, rfl, rfl, w1⟩ := open_int Try.underlying3 k1 h1
  obtain ⟨us, hb⟩ := open_mbs k2 h2
  obtain ⟨y, rv, vv, bv, rfl, hm, _⟩ := open_mb k3 h3
  exact (ncopies_any a b v2 us y rv vv bv W hb hm).mono fun e w' ⟨he, ho⟩ => ⟨he, ho.below (Nat.le_refl _) (by simp)⟩
end Go.Proofs.Ytfmfknjjhemnoaa
