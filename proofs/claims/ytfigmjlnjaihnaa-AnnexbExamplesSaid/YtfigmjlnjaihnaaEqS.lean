/- The kit's EqualStrings: two slices of strings that may be read. -/
import Derived.Test.YtfigmjlnjaihnaaSs
import Derived.Deep.LoopGhost
import Derived.Deep.DeepCutAuto
namespace Go.Proofs.Ytfigmjlnjaihnaa
open Go.RowKit
set_option linter.unusedVariables false

theorem take_oneS (l : List ByteArray) (j : Nat) (h : j < l.length) : ∃ x, l[j]? = some x ∧ l.take (j + 1) = l.take j ++ [x] := ⟨l[j], List.getElem?_eq_getElem h, List.take_succ_eq_append_getElem h⟩
theorem eqStr (a b : ByteArray) : (a.toList == b.toList) = decide (a = b) := by
  rw [Lib.toList_data, Lib.toList_data]
  by_cases h : a = b
  · subst h; simp
  · rw [decide_eq_false h, beq_eq_false_iff_ne]
    intro e
    exact h (ByteArray.ext (Array.toList_inj.1 e))
set_option maxHeartbeats 2000000 in
theorem eqs_any (a b : Value) (ss ts : List ByteArray) (w : World) (ha : Holds w a ss) (hb : Holds w b ts) (h1 : ss.length ≤ 1000000) (h2 : ts.length ≤ 1000000) :
    Calls Try.prog 14 #[a, b] w fun e w' => e = .returned (.bool (decide (ss = ts))) ∧ Only [] w w' := by
  obtain ⟨a, c, rfl, HA⟩ := ha
  obtain ⟨b, d, rfl, HB⟩ := hb
  have HA := hid HA
  have HB := hid HB
  by_cases hl : ss.length = ts.length
  · have TL := hid hl
    obtain ⟨n, hn⟩ : ∃ n, n = ss.length := ⟨_, rfl⟩
    have N1 := hid hn
    have N2 := hid (hn.trans hl)
    rw [← hl, ← hn]
    rw [← hn] at h1
    clear hl h2 hn
    obtain ⟨r, hr⟩ : ∃ r, r = decide (ss = ts) := ⟨_, rfl⟩
    rw [← hr]
    have R := hid hr
    clear hr
    have nb : (n : Int) ≤ 1000000 := by omega
    go_enter Try.func14, Try.ntmps14
    go_wp2_with fail
    go_loopg [5] n (fun g t wr => ∃ j : Nat, j + g = n ∧ t = .int .i64 j ∧ ss.take j = ts.take j ∧ Only [] w wr)
    case atStart => exact ⟨0, by omega, rfl, rfl, Only.refl _ _⟩
    case round =>
      obtain ⟨j, hj, rfl, ht, hO⟩ := hrel
      have J := hid hj
      have T := hid ht
      have O := hid hO
      clear ht hO
      have jb : (j : Int) ≤ 1000000 := by omega
      have j0 : (0 : Int) ≤ (j : Int) := by omega
      by_cases hg : gk = 0
      · obtain rfl : j = n := by omega
        have i1 : ¬ (j : Int) < (j : Int) := by omega
        have E := R.out
        have e := T.out
        rw [List.take_of_length_le (by have := N1.out; omega), List.take_of_length_le (by have := N2.out; omega)] at e
        rw [decide_eq_true e] at E
        subst E
        clear hj hg e
        go_wp2_with fail
        go_ret
        exact ⟨rfl, O.out⟩
      · have i1 : (j : Int) < (n : Int) := by omega
        obtain ⟨g, rfl⟩ : ∃ g, gk = g + 1 := ⟨gk - 1, by omega⟩
        have l1 : j < ss.length := by have := N1.out; omega
        have l2 : j < ts.length := by have := N2.out; omega
        obtain ⟨x, X, T1⟩ := take_oneS ss j l1
        obtain ⟨y, Y, T2⟩ := take_oneS ts j l2
        obtain ⟨ad, rfl, hx⟩ := HA.out j x X
        obtain ⟨bd, rfl, hy⟩ := HB.out j y Y
        have hx := O.out.cell hx (by simp)
        have hy := O.out.cell hy (by simp)
        have EQ := eqStr x y
        have X := hid X
        have Y := hid Y
        have T1 := hid T1
        have T2 := hid T2
        clear hj hg l1 l2
        by_cases e : x = y
        · rw [decide_eq_true e] at EQ
          have EE := hid e
          clear e
          go_wp2_with fail
          go_quiet (fail)
          go_wp2_with fail
          go_roundg g
          case measure => omega
          case rel => exact ⟨j + 1, by have := J.out; omega, by go_num, by rw [T1.out, T2.out, T.out, EE.out], O.out.drewN _⟩
        · rw [decide_eq_false e] at EQ
          have NE : decide (ss = ts) = false := by
            rw [decide_eq_false_iff_not]
            intro h
            subst h
            exact e (Option.some.inj (X.out.symm.trans Y.out))
          have E := R.out
          rw [NE] at E
          subst E
          clear e NE
          go_wp2_with fail
          go_quiet (fail)
          go_wp2_with fail
          go_ret
          exact ⟨rfl, O.out.drewN _⟩
  · have hne : ((ss.length : Int) == (ts.length : Int)) = false := by rw [beq_eq_false_iff_ne]; omega
    have hne2 : ((ss.length : Int) != (ts.length : Int)) = true := by rw [bne_iff_ne]; omega
    rw [decide_eq_false (fun e => hl (by rw [e]))]
    clear hl
    go_enter Try.func14, Try.ntmps14
    go_wp2_with fail
    go_ret
    exact ⟨rfl, Only.refl _ _⟩
end Go.Proofs.Ytfigmjlnjaihnaa
