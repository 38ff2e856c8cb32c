/- NearIgnores, its core. -/
import Derived.Test.YtfmfknjjhemnoaaNoA
import Derived.Test.YtfmfknjjhemnoaaNiB
import Derived.Test.YtfmfknjjhemnoaaNiC
import Derived.ProofKit
import Derived.OpenShut
import Derived.ChangeSame
import Derived.Below
namespace Go.Proofs.Ytfmfknjjhemnoaa
open Go.RowKit Go.ChangeShapes Go.WideShapes Go.ChangeAt
set_option linter.unusedVariables false

theorem nignores_any (f wd i : Int) (b : Value) (us : List El) (x : MV) (rv vv bv : Value) (w : World) (hb : LIn w b us) (hm : MAt w x rv vv bv) :
    Calls Try.prog 6 #[.int .i64 f, .int .i64 wd, b, .int .i64 i, mV x rv vv bv] w fun e w' => e = .returned (.bool true) ∧ Only [] w w' := by
  obtain ⟨s1, s2, s3, rfl, rfl, rfl⟩ := hm.sl
  by_cases h : okN f wd
  · by_cases hn : f + us.length ≤ 8160
    · exact nignores_yes f wd i b us x s1 s2 s3 w hb hm h hn
    · exact nignores_no f wd i b us x s1 s2 s3 w hb hm (.inr hn)
  · exact nignores_no f wd i b us x s1 s2 s3 w hb hm (.inl h)
theorem nearIgnores_core {H : Type} {enc : TypeId × Value → H} (W : World) (base : Nat)
    (v0 : Value) (d0 : DataW H) (p0 : List MemPlace) (k0 : Value.okWide Try.prog W .any base 3 v0) (h0 : DataW.Trod enc Try.prog W 0 (fun _ => true) true 3 v0 d0 p0)
    (v1 : Value) (d1 : DataW H) (p1 : List MemPlace) (k1 : Value.okWide Try.prog W .any base 3 v1) (h1 : DataW.Trod enc Try.prog W 0 (fun _ => true) true 3 v1 d1 p1)
    (v2 : Value) (d2 : DataW H) (p2 : List MemPlace) (k2 : Value.okWide Try.prog W .any base 22 v2) (h2 : DataW.Trod enc Try.prog W 0 (fun _ => true) true 22 v2 d2 p2)
    (v3 : Value) (d3 : DataW H) (p3 : List MemPlace) (k3 : Value.okWide Try.prog W .any base 3 v3) (h3 : DataW.Trod enc Try.prog W 0 (fun _ => true) true 3 v3 d3 p3)
    (v4 : Value) (d4 : DataW H) (p4 : List MemPlace) (k4 : Value.okWide Try.prog W .any base 40 v4) (h4 : DataW.Trod enc Try.prog W 0 (fun _ => true) true 40 v4 d4 p4) :
    Calls Try.prog 6 #[v0, v1, v2, v3, v4] W fun e w' => e = .returned (.bool true) ∧ Below W.heap.size W w' := by
  obtain ⟨a, rfl, rfl, rfl, w0⟩ := open_int Try.underlying3 k0 h0
  obtain ⟨b, rfl, rfl, rfl, w1⟩ := open_int Try.underlying3 k1 h1
  obtain ⟨us, hb⟩ := open_mbs k2 h2
  obtain ⟨i, rfl, rfl, rfl, w3⟩ := open_int Try.underlying3 k3 h3
  obtain ⟨y, rv, vv, bv, rfl, hm, _⟩ := open_mb k4 h4
  exact (nignores_any a b i v2 us y rv vv bv W hb hm).mono fun e w' ⟨he, ho⟩ => ⟨he, ho.below (Nat.le_refl _) (by simp)⟩
end Go.Proofs.Ytfmfknjjhemnoaa
