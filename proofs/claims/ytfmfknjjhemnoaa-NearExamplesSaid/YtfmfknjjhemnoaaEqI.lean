/- The kit's EqualInts and CopyInts. -/
import Derived.Test.YtfmfknjjhemnoaaIs
import Derived.Deep.LoopGhost
import Derived.Deep.DeepCutAuto
import Derived.Deep.QuietTactic
import Derived.BigQuiet
import Derived.Lib.AppendZeros
namespace Go.Proofs.Ytfmfknjjhemnoaa
open Go.RowKit
set_option linter.unusedVariables false

theorem take_oneI (l : List Int) (j : Nat) (h : j < l.length) : ∃ x, l[j]? = some x ∧ l.take (j + 1) = l.take j ++ [x] := ⟨l[j], List.getElem?_eq_getElem h, List.take_succ_eq_append_getElem h⟩
set_option maxHeartbeats 2000000 in
theorem eqi_any (a b : Value) (ss ts : List Int) (w : World) (ha : HoldsI .i64 w a ss) (hb : HoldsI .i64 w b ts) (h1 : ss.length ≤ 1000000) (h2 : ts.length ≤ 1000000) :
    Calls Try.prog 39 #[a, b] w fun e w' => e = .returned (.bool (decide (ss = ts))) ∧ Only [] w w' := by
  have HA := hid ha
  have HB := hid hb
  obtain ⟨a, c, rfl, _⟩ := ha
  obtain ⟨b, d, rfl, _⟩ := hb
  by_cases hl : ss.length = ts.length
  · have TL := hid hl
    obtain ⟨n, hn⟩ : ∃ n, n = ss.length := ⟨_, rfl⟩
    have N1 := hid hn
    have N2 := hid (hn.trans hl)
    rw [← hl, ← hn]
    rw [← hn] at h1
    clear hl h2 hn
    obtain ⟨r, hr⟩ : ∃ r, r = decide (ss = ts) := ⟨_, rfl⟩
    rw [← hr]
    have R := hid hr
    clear hr
    have nb : (n : Int) ≤ 1000000 := by omega
    go_enter Try.func39, Try.ntmps39
    go_wp2_with fail
    go_loopg [5] n (fun g t wr => ∃ j : Nat, j + g = n ∧ t = .int .i64 j ∧ ss.take j = ts.take j ∧ Only [] w wr)
    case atStart => exact ⟨0, by omega, rfl, rfl, Only.refl _ _⟩
    case round =>
      obtain ⟨j, hj, rfl, ht, hO⟩ := hrel
      have J := hid hj
      have T := hid ht
      have O := hid hO
      clear ht hO
      have jb : (j : Int) ≤ 1000000 := by omega
      have j0 : (0 : Int) ≤ (j : Int) := by omega
      by_cases hg : gk = 0
      · obtain rfl : j = n := by omega
        have i1 : ¬ (j : Int) < (j : Int) := by omega
        have E := R.out
        have e := T.out
        rw [List.take_of_length_le (by have := N1.out; omega), List.take_of_length_le (by have := N2.out; omega)] at e
        rw [decide_eq_true e] at E
        subst E
        clear hj hg e
        go_wp2_with fail
        go_ret
        exact ⟨rfl, O.out⟩
      · have i1 : (j : Int) < (n : Int) := by omega
        obtain ⟨g, rfl⟩ : ∃ g, gk = g + 1 := ⟨gk - 1, by omega⟩
        have l1 : j < ss.length := by have := N1.out; omega
        have l2 : j < ts.length := by have := N2.out; omega
        obtain ⟨x, X, T1⟩ := take_oneI ss j l1
        obtain ⟨y, Y, T2⟩ := take_oneI ts j l2
        obtain ⟨xb, xo, rfl, hx⟩ := HA.out.at X
        obtain ⟨yb, yo, rfl, hy⟩ := HB.out.at Y
        have hx := O.out.cell hx (by simp)
        have hy := O.out.cell hy (by simp)
        have X := hid X
        have Y := hid Y
        have T1 := hid T1
        have T2 := hid T2
        clear hj hg l1 l2
        by_cases e : x = y
        · subst e
          have EE : Hid True := trivial
          go_wp2_with fail
          go_quiet (fail)
          go_wp2_with fail
          go_roundg g
          case measure => omega
          case rel => exact ⟨j + 1, by have := J.out; omega, by go_num, by rw [T1.out, T2.out, T.out], O.out.drewN _⟩
        · have NE : decide (ss = ts) = false := by
            rw [decide_eq_false_iff_not]
            intro h
            subst h
            exact e (Option.some.inj (X.out.symm.trans Y.out))
          have E := R.out
          rw [NE] at E
          subst E
          clear NE
          go_wp2_with fail
          go_quiet (fail)
          go_wp2_with fail
          go_ret
          exact ⟨rfl, O.out.drewN _⟩
  · have hne : ((ss.length : Int) == (ts.length : Int)) = false := by rw [beq_eq_false_iff_ne]; omega
    have hne2 : ((ss.length : Int) != (ts.length : Int)) = true := by rw [bne_iff_ne]; omega
    rw [decide_eq_false (fun e => hl (by rw [e]))]
    clear hl
    go_enter Try.func39, Try.ntmps39
    go_wp2_with fail
    go_ret
    exact ⟨rfl, Only.refl _ _⟩
set_option maxHeartbeats 1000000 in
theorem cpi_any (a : Value) (ss : List Int) (w : World) (ha : HoldsI .i64 w a ss) (h1 : ss.length ≤ 1000000) :
    Calls Try.prog 34 #[a] w fun e w' => ∃ sv, e = .returned sv ∧ RowI w' sv ss ∧ Only [] w w' ∧ ∀ g, g ∈ ownI sv → w.heap.size ≤ g := by
  obtain ⟨sv2, w2, hrun, hrow, honly, hown⟩ := append_copyI w a ss ha (by omega)
  have F := hid (⟨hrow, honly, hown⟩ : _ ∧ _ ∧ _)
  obtain ⟨a, c, rfl, _⟩ := ha
  clear hrow honly hown
  go_enter Try.func34, Try.ntmps34
  go_wp2_with (at_builtin; refine Lib.wpList_append_run _ rfl _ _ _ _ rfl _ _ rfl rfl _ _ hrun ?_)
  go_ret
  exact ⟨_, rfl, F.out⟩
end Go.Proofs.Ytfmfknjjhemnoaa
