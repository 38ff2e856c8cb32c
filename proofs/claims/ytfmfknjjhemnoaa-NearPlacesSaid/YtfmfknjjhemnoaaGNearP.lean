/- NearPlaces, its core. -/
import Derived.Test.YtfmfknjjhemnoaaNoA
import Derived.Test.YtfmfknjjhemnoaaNpP
import Derived.Test.YtfmfknjjhemnoaaNpQ
import Derived.Test.YtfmfknjjhemnoaaNpR
import Derived.Test.YtfmfknjjhemnoaaNpS
import Derived.Test.YtfmfknjjhemnoaaNpT
import Derived.ProofKit
import Derived.OpenShut
import Derived.ChangeSame
import Derived.Below
namespace Go.Proofs.Ytfmfknjjhemnoaa
open Go.RowKit Go.ChangeShapes Go.WideShapes Go.ChangeAt
set_option linter.unusedVariables false

theorem nplaces_any (f wd : Int) (b : Value) (us : List El) (w : World) (wf : -9223372036854775808 ≤ f ∧ f ≤ 9223372036854775807) (hb : LIn w b us) :
    Calls Try.prog 5 #[.int .i64 f, .int .i64 wd, b] w fun e w' => e = .returned (.bool true) ∧ Only [] w w' := by
  by_cases hk : okN f wd ∧ f + us.length ≤ 8160
  · obtain ⟨h, hn⟩ := hk
    have hw := h.2.2.1
    by_cases z0 : us.length = 0
    · exact nplaces_n f wd b us w hb h hn z0 (by omega)
    obtain ⟨m, hm⟩ : ∃ m, us.length = m + 1 := ⟨us.length - 1, by omega⟩
    by_cases zk : (us.length : Int) < wd
    · by_cases zc : (f + us.length) % wd = 0
      · exact nplaces_cn f wd b us w hb h hn m hm zc zk
      · exact nplaces_yn f wd b us w hb h hn m hm zc zk
    · obtain ⟨k, hk⟩ : ∃ k : Nat, (us.length : Int) - wd = k := ⟨((us.length : Int) - wd).toNat, by omega⟩
      by_cases zc : (f + us.length) % wd = 0
      · exact nplaces_cy f wd b us w hb h hn m hm zc k hk
      · exact nplaces_yy f wd b us w hb h hn m hm zc k hk
  · refine nplaces_bad f wd b us w wf hb ?_
    by_cases h : okN f wd
    · exact .inr (fun q => hk ⟨h, q⟩)
    · exact .inl h
theorem nearPlaces_core {H : Type} {enc : TypeId × Value → H} (W : World) (base : Nat)
    (v0 : Value) (d0 : DataW H) (p0 : List MemPlace) (k0 : Value.okWide Try.prog W .any base 3 v0) (h0 : DataW.Trod enc Try.prog W 0 (fun _ => true) true 3 v0 d0 p0)
    (v1 : Value) (d1 : DataW H) (p1 : List MemPlace) (k1 : Value.okWide Try.prog W .any base 3 v1) (h1 : DataW.Trod enc Try.prog W 0 (fun _ => true) true 3 v1 d1 p1)
    (v2 : Value) (d2 : DataW H) (p2 : List MemPlace) (k2 : Value.okWide Try.prog W .any base 22 v2) (h2 : DataW.Trod enc Try.prog W 0 (fun _ => true) true 22 v2 d2 p2) :
    Calls Try.prog 5 #[v0, v1, v2] W fun e w' => e = .returned (.bool true) ∧ Below W.heap.size W w' := by
  obtain ⟨a, rfl, rfl, rfl, w0⟩ := open_int Try.underlying3 k0 h0
  obtain ⟨b, rfl, rfl, rfl, w1⟩ := open_int Try.underlying3 k1 h1
  obtain ⟨us, hb⟩ := open_mbs k2 h2
  exact (nplaces_any a b v2 us W (bounds_i64v w0) hb).mono fun e w' ⟨he, ho⟩ => ⟨he, ho.below (Nat.le_refl _) (by simp)⟩
end Go.Proofs.Ytfmfknjjhemnoaa
