/- NearPlaces: what the ways share; no object. -/
import Derived.Test.YtfmfknjjhemnoaaNhB
import Derived.Test.YtfmfknjjhemnoaaNkA
namespace Go.Proofs.Ytfmfknjjhemnoaa
open Go.RowKit
set_option linter.unusedVariables false
set_option linter.unusedSimpArgs false

def FoundB (w w' : World) (x : MV) (b : Bool) (e : Ending) : Prop := ∃ rv vv bv, e = .returned (.tuple #[mV x rv vv bv, .bool b]) ∧ OwnM w w' x rv vv bv
theorem Found.b {w w' : World} {o : Option MV} {e : Ending} {x : MV} {b : Bool} (h : Found w w' o e) (h1 : ansM o = x) (h2 : o.isSome = b) : FoundB w w' x b e := by
  subst h1 h2
  exact h
theorem lookR_last {f : Int} {ms : List MV} (m : Nat) (hm : ms.length = m + 1) : lookR f ms (f + ms.length - 1) = ms[m]? := by
  rw [show f + (ms.length : Int) - 1 = f + (m : Int) by omega, lookR_yes]
theorem lookR_none {f : Int} {ms : List MV} (h : ms.length = 0) : lookR f ms (f + ms.length - 1) = none := lookR_no (by omega)
theorem lookR_up {f wd : Int} {ms : List MV} (k : Nat) (hk : (ms.length : Int) - wd = k) : lookR f ms (f + ms.length - wd) = ms[k]? := by
  rw [show f + (ms.length : Int) - wd = f + (k : Int) by omega, lookR_yes]
theorem lookR_none2 {f wd : Int} {ms : List MV} (h : (ms.length : Int) < wd) : lookR f ms (f + ms.length - wd) = none := lookR_no (by omega)
set_option maxRecDepth 1000000 in
set_option maxHeartbeats 4000000 in
theorem nplaces_bad (f wd : Int) (b : Value) (us : List El) (w : World) (wf : -9223372036854775808 ≤ f ∧ f ≤ 9223372036854775807) (hb : LIn w b us) (h : ¬ okN f wd ∨ ¬ f + us.length ≤ 8160) :
    Calls Try.prog 5 #[.int .i64 f, .int .i64 wd, b] w fun e w' => e = .returned (.bool true) ∧ Only [] w w' := by
  have FW := hid (few_any b us 40 w hb (by omega) (by omega))
  have MY := hid (fun w' (o : Only [] w w') hs hl => made_any f wd b us w' (hb.only0 o) hs hl)
  obtain ⟨ba, bc, rfl, _⟩ := id hb.h
  obtain ⟨n, hn⟩ : ∃ n, n = us.length := ⟨_, rfl⟩
  have N0 := hid hn
  rw [← hn] at FW MY h ⊢
  have H := hid h
  have WF := hid wf
  clear hb hn h wf
  have MB : ∀ w', Only [] w w' → (∀ e, e ∈ us → MSm e.1) → n ≤ 100 → Calls Try.prog 25 #[.int .i64 f, .int .i64 wd, .slice ba n bc] w' fun e w'' => e = .returned (.pointer none) ∧ Only [] w' w'' := fun w' o hs hl => by
    rcases MY.out w' o hs hl with ⟨h1, h2, _⟩ | ⟨_, h⟩
    · exact absurd h2 (H.out.elim (fun q => absurd h1 q) id)
    · exact h
  have MB := hid MB
  clear MY
  go_enter Try.func5, Try.ntmps5
  go_wp2_with fail
  refine FW.out.mono ?_
  rintro e w1 ⟨rr, rfl, hr, o1⟩
  have HR := hid hr
  have O1 := hid o1
  clear hr o1
  cases rr with
  | false =>
    go_wp2_with fail
    go_ret
    exact ⟨rfl, O1.out⟩
  | true =>
    have SM := hid (HR.out rfl)
    have n40 : (n : Int) ≤ 40 := by have := SM.out.1; have := N0.out; omega
    have MD := hid (MB.out w1 O1.out SM.out.2 (by omega))
    clear HR
    go_wp2_with fail
    refine MD.out.mono ?_
    rintro e w2 ⟨rfl, o2⟩
    have O2 := hid (O1.out.trans o2)
    clear o2 MD MB
    by_cases h1 : f < 0
    · go_wp2_with fail
      go_ret
      exact ⟨rfl, O2.out⟩
    by_cases h2 : wd < 1
    · go_wp2_with fail
      go_ret
      exact ⟨rfl, O2.out⟩
    by_cases h3 : wd > 128
    · go_wp2_with fail
      go_ret
      exact ⟨rfl, O2.out⟩
    by_cases h4 : f ≥ 8160
    · clear FW N0 WF H
      go_wp2_with fail
      all_goals go_ret
      all_goals exact ⟨rfl, O2.out⟩
    · have h5 : f + (n : Int) > 8160 := by
        rcases H.out with h | h
        · exact absurd (show okN f wd from ⟨by omega, by omega, by omega, by omega⟩) h
        · omega
      clear FW N0 WF H
      go_wp2_with fail
      go_ret
      exact ⟨rfl, O2.out⟩
end Go.Proofs.Ytfmfknjjhemnoaa
