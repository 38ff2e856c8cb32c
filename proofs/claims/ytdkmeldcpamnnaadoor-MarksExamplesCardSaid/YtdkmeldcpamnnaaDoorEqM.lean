/- The kit's EqualMods and CopyMods. -/
import Derived.Test.YtdkmeldcpamnnaaDoorMs
import Derived.Laws.StructEq
import Derived.Deep.LoopGhost
import Derived.Deep.DeepCutAuto
namespace Go.Proofs.YtdkmeldcpamnnaaDoor
open Go.RowKit
set_option linter.unusedVariables false

theorem neq_mod (x y : Int × Int × Int) (w : World) : (binOp .neq 50 (.agg #[.int .u8 x.1, .int .i64 x.2.1, .int .i64 x.2.2]) (.agg #[.int .u8 y.1, .int .i64 y.2.1, .int .i64 y.2.2])).run Tryd.prog w = .ok (.bool (!decide (x = y))) w := by
  obtain ⟨a, b, c⟩ := x
  obtain ⟨d, e, f⟩ := y
  go_simp
  by_cases h1 : a = d <;> by_cases h2 : b = e <;> by_cases h3 : c = f <;> simp [h1, h2, h3]

theorem take_oneM (l : List (Int × Int × Int)) (j : Nat) (h : j < l.length) : ∃ x, l[j]? = some x ∧ l.take (j + 1) = l.take j ++ [x] := ⟨l[j], List.getElem?_eq_getElem h, List.take_succ_eq_append_getElem h⟩
theorem HoldsM.at {w : World} {a : Option Addr} {n c : Nat} {l : List (Int × Int × Int)} (h : HoldsM w (.slice a n c) l) {j : Nat} {x : Int × Int × Int} (hx : l[j]? = some x) : ∃ b o, a = some ⟨b, o, none⟩ ∧ MAt w b (o + j * 3) x := by
  obtain ⟨a2, c2, e, _, _, h3⟩ := h
  cases e
  rcases h3 with h3 | ⟨b, o, rfl, hc⟩
  · subst h3; simp at hx
  · exact ⟨b, o, rfl, hc j x hx⟩
set_option maxHeartbeats 2000000 in
theorem eqm_any (a b : Value) (ss ts : List (Int × Int × Int)) (w : World) (ha : HoldsM w a ss) (hb : HoldsM w b ts) (h1 : ss.length ≤ 1000000) (h2 : ts.length ≤ 1000000) :
    Calls Tryd.prog 20 #[a, b] w fun e w' => e = .returned (.bool (decide (ss = ts))) ∧ Only [] w w' := by
  have HA := hid ha
  have HB := hid hb
  obtain ⟨a, c, rfl, _⟩ := ha
  obtain ⟨b, d, rfl, _⟩ := hb
  by_cases hl : ss.length = ts.length
  · have TL := hid hl
    obtain ⟨n, hn⟩ : ∃ n, n = ss.length := ⟨_, rfl⟩
    have N1 := hid hn
    have N2 := hid (hn.trans hl)
    rw [← hl, ← hn]
    rw [← hn] at h1
    clear hl h2 hn
    obtain ⟨r, hr⟩ : ∃ r, r = decide (ss = ts) := ⟨_, rfl⟩
    rw [← hr]
    have R := hid hr
    clear hr
    have nb : (n : Int) ≤ 1000000 := by omega
    go_enter Tryd.func20, Tryd.ntmps20
    go_wp2_with fail
    go_loopg [5] n (fun g t wr => ∃ j : Nat, j + g = n ∧ t = .int .i64 j ∧ ss.take j = ts.take j ∧ Only [] w wr)
    case atStart => exact ⟨0, by omega, rfl, rfl, Only.refl _ _⟩
    case round =>
      obtain ⟨j, hj, rfl, ht, hO⟩ := hrel
      have J := hid hj
      have T := hid ht
      have O := hid hO
      clear ht hO
      have jb : (j : Int) ≤ 1000000 := by omega
      have j0 : (0 : Int) ≤ (j : Int) := by omega
      by_cases hg : gk = 0
      · obtain rfl : j = n := by omega
        have i1 : ¬ (j : Int) < (j : Int) := by omega
        have E := R.out
        have e := T.out
        rw [List.take_of_length_le (by have := N1.out; omega), List.take_of_length_le (by have := N2.out; omega)] at e
        rw [decide_eq_true e] at E
        subst E
        clear hj hg e
        go_wp2_with fail
        go_ret
        exact ⟨rfl, O.out⟩
      · have i1 : (j : Int) < (n : Int) := by omega
        obtain ⟨g, rfl⟩ : ∃ g, gk = g + 1 := ⟨gk - 1, by omega⟩
        have l1 : j < ss.length := by have := N1.out; omega
        have l2 : j < ts.length := by have := N2.out; omega
        obtain ⟨x, X, T1⟩ := take_oneM ss j l1
        obtain ⟨y, Y, T2⟩ := take_oneM ts j l2
        obtain ⟨xb, xo, rfl, hx⟩ := HA.out.at X
        obtain ⟨yb, yo, rfl, hy⟩ := HB.out.at Y
        obtain ⟨x0, x1, x2⟩ := hx.only O.out (by simp)
        obtain ⟨y0, y1, y2⟩ := hy.only O.out (by simp)
        have EQ := neq_mod x y
        have X := hid X
        have Y := hid Y
        have T1 := hid T1
        have T2 := hid T2
        clear hj hg l1 l2 hx hy
        by_cases e : x = y
        · rw [decide_eq_true e] at EQ
          have EE := hid e
          clear e
          go_wp2_with fail
          go_quiet (fail)
          go_wp2_with fail
          go_roundg g
          case measure => omega
          case rel => exact ⟨j + 1, by have := J.out; omega, by go_num, by rw [T1.out, T2.out, T.out, EE.out], O.out.drewN _⟩
        · rw [decide_eq_false e] at EQ
          have NE : decide (ss = ts) = false := by
            rw [decide_eq_false_iff_not]
            intro h
            subst h
            exact e (Option.some.inj (X.out.symm.trans Y.out))
          have E := R.out
          rw [NE] at E
          subst E
          clear e NE
          go_wp2_with fail
          go_quiet (fail)
          go_wp2_with fail
          go_ret
          exact ⟨rfl, O.out.drewN _⟩
  · have hne : ((ss.length : Int) == (ts.length : Int)) = false := by rw [beq_eq_false_iff_ne]; omega
    have hne2 : ((ss.length : Int) != (ts.length : Int)) = true := by rw [bne_iff_ne]; omega
    rw [decide_eq_false (fun e => hl (by rw [e]))]
    clear hl
    go_enter Tryd.func20, Tryd.ntmps20
    go_wp2_with fail
    go_ret
    exact ⟨rfl, Only.refl _ _⟩
set_option maxHeartbeats 1000000 in
theorem cpm_any (a : Value) (ss : List (Int × Int × Int)) (w : World) (ha : HoldsM w a ss) (h1 : ss.length ≤ 1000000) :
    Calls Tryd.prog 9 #[a] w fun e w' => ∃ sv, e = .returned sv ∧ RowM w' sv ss ∧ Only [] w w' ∧ ∀ g, g ∈ ownOf sv → w.heap.size ≤ g := by
  obtain ⟨sv2, w2, hrun, hrow, honly, hown⟩ := append_rowsM w (.slice none 0 0) a [] ss (RowM.nil w) ha (by simp; omega)
  have F := hid (⟨hrow, honly, hown⟩ : _ ∧ _ ∧ _)
  obtain ⟨a, c, rfl, _⟩ := ha
  clear hrow honly hown
  go_enter Tryd.func9, Tryd.ntmps9
  go_wp2_with (at_builtin; refine Lib.wpList_append_run _ rfl _ _ _ _ rfl _ _ rfl rfl _ _ hrun ?_)
  go_ret
  obtain ⟨hrow, honly, hown⟩ := F.out
  refine ⟨_, rfl, hrow, honly.mono (fun k hk h => by simp [ownOf, Value.ownBlock] at h), fun g hg => ?_⟩
  rcases hown g hg with e | e
  · simp [ownOf, Value.ownBlock] at e
  · exact e
end Go.Proofs.YtdkmeldcpamnnaaDoor
