/- MarksChecks: the walk. -/
import Derived.Test.YtdkmeldcpamnnaaDoorMkT
namespace Go.Proofs.YtdkmeldcpamnnaaDoor
open Go.RowKit
set_option linter.unusedVariables false

set_option maxRecDepth 100000 in
set_option maxHeartbeats 2000000 in
theorem mchecks_any (a : Value) (l : List (Int × Int × Int)) (before : Int) (W : World) (hV : Vars W) (ha : HoldsM W a l) (hk : OksM l) (b0 : -9223372036854775808 ≤ before) (b1 : before ≤ 9223372036854775807) :
    Calls Tryd.prog 3 #[a, .int .i64 before] W fun e w' => e = .returned (.bool true) ∧ Only [] W w' := by
  have HV := hid hV
  clear hV
  obtain ⟨a, c, rfl, hc1, hc2, _⟩ := id ha
  obtain ⟨n, hn⟩ : ∃ n, n = min l.length 80 := ⟨_, rfl⟩
  have hP := holdsM_part1 ha n (by omega)
  have ll : (l.take n).length = n := by rw [List.length_take]; omega
  have hk' : OksM (l.take n) := fun j x hx => hk j x (by
    obtain ⟨q1, q2⟩ := List.getElem?_eq_some_iff.1 hx
    rw [List.length_take] at q1
    rw [← hx, List.getElem?_take, if_pos (by omega)])
  obtain ⟨t, ht⟩ : ∃ t, t = l.take n := ⟨_, rfl⟩
  rw [← ht] at hP ll hk'
  have hnI : min (l.length : Int) 80 = (n : Int) := by omega
  have hc' : (n : Int) ≤ (c : Int) := by omega
  have n80 : n ≤ 80 := by omega
  have HP := hid hP
  have HK := hid hk'
  have LL := hid ll
  have hb : (l.length : Int) ≤ 9223372036854775807 := by unfold maxLen at hc2; omega
  obtain ⟨K, hK⟩ : ∃ K : Nat, (before.tmod 8 + 8) % 8 = (K : Int) := ⟨((before.tmod 8 + 8) % 8).toNat, by omega⟩
  have r0 : -7 ≤ before.tmod 8 := by have := Int.lt_tmod_of_pos before (by decide : (0 : Int) < 8); omega
  have r1 : before.tmod 8 ≤ 7 := by have := Int.tmod_lt_of_pos before (by decide : (0 : Int) < 8); omega
  have K7 : (K : Int) ≤ 7 := by omega
  clear ha hk hc1 hc2 ht hP hk' ll hn
  go_enter Tryd.func3, Tryd.ntmps3
  go_wp2_with fail
  refine (cpm_any _ t W HP.out (by have := LL.out; omega)).mono ?_
  rintro e w1 ⟨own, rfl, hrow, hO, hown⟩
  have OW := hid hrow.holds
  have AR := hid (HP.out.only0 hO)
  have O1 := hid hO
  have AW := hid (awake_any)
  clear hrow hO hown
  obtain ⟨oa, oc, ho, _, _, _⟩ := id OW.out
  rw [LL.out] at ho
  subst ho
  go_wp2_with fail
  go_loopg [6] 2 (fun g t6 wr => ∃ i : Nat, i + g = 2 ∧ t6 = .int .i64 i ∧ Only [] w1 wr)
  case atStart => exact ⟨0, by omega, rfl, Only.refl _ _⟩
  case round =>
    obtain ⟨i, hi, rfl, hO⟩ := hrel
    have O := hid hO
    clear hO
    have i0 : (0 : Int) ≤ (i : Int) := by omega
    have i2 : (i : Int) ≤ 2 := by omega
    by_cases hg : gk = 0
    · obtain rfl : i = 2 := by omega
      clear hi hg
      go_wp2_with fail
      refine (eqm_any _ _ t t _ (OW.out.only0 O.out) (AR.out.only0 O.out) (by have := LL.out; omega) (by have := LL.out; omega)).mono ?_
      rintro e w2 ⟨rfl, hO2⟩
      have O2 := hid (O.out.trans hO2)
      have dt : decide (t = t) = true := decide_eq_true rfl
      clear hO2
      go_wp2_with fail
      refine (AW.out _ (HV.out.only0 (O1.out.trans O2.out))).mono ?_
      rintro e w3 ⟨rfl, hO3⟩
      go_wp2_with fail
      go_ret
      exact ⟨rfl, O1.out.trans (O2.out.trans hO3)⟩
    · have g1 : (i : Int) < 2 := by omega
      obtain ⟨g, rfl⟩ : ∃ g, gk = g + 1 := ⟨gk - 1, by omega⟩
      have IG := hid (show i + 1 + g = 2 by omega)
      obtain ⟨m, hm⟩ : ∃ m, ((i : Int) == 1) = m := ⟨_, rfl⟩
      have C1 := hid (fun w (hV : Vars w) h => lcheck_any m (.slice oa n oc) t w hV h HK.out)
      have C2 := hid (fun w h => rcheck_any m (.slice a n c) t w h HK.out)
      have P1 := hid (fun b sv L w (hV : Vars w) h h2 h3 h4 => lwrite_any m b sv L (.slice oa n oc) t w hV h h2 HK.out h3 h4)
      have P2 := hid (fun b sv L w h h2 h3 h4 => rput9_any m b sv L (.slice a n c) t w h h2 HK.out h3 h4)
      clear hi hg
      go_wp2_with fail
      refine (write_any _).mono ?_
      rintro e w2 ⟨rfl, hW2, hO2⟩
      have W2 := hid hW2
      have O2 := hid (O.out.trans hO2)
      obtain ⟨b, hb'⟩ : ∃ b, b = wr.heap.size := ⟨_, rfl⟩
      rw [← hb'] at W2 ⊢
      have hbl := W2.out.lt
      have hbg := hid (show w1.heap.size ≤ b by rw [hb']; exact O.out.size)
      clear hW2 hO2 hb'
      go_wp2_with fail
      refine (rwrite_any _).mono ?_
      rintro e w3 ⟨rfl, hW3, hO3⟩
      obtain ⟨d, hd⟩ : ∃ d, d = w2.heap.size := ⟨_, rfl⟩
      rw [← hd] at hW3 ⊢
      have T3 := hid (show Two w1 b d (List.replicate 0 true) (List.replicate 0 true) (.slice none 0 0) (.slice none 0 0) w3 from
        ⟨W2.out.only hO3 (by simp) (by simp), hW3, by simp [ownOf, Value.ownBlock], by simp [ownOf, Value.ownBlock], by simp [ownOf, Value.ownBlock], hbg.out, by rw [hd]; exact O2.out.size, by omega, O2.out.trans hO3⟩)
      clear hW3 hO3 hd hbl hbg W2 O2 O
      go_wp2_with fail
      go_loopg [9] K (fun g t9 wr => ∃ (j : Nat) (sv tv : Value), j + g = K ∧ t9 = .int .i64 j ∧ Two w1 b d (List.replicate j true) (List.replicate j true) sv tv wr)
      case atStart => exact ⟨0, _, _, by omega, rfl, T3.out⟩
      case round =>
        obtain ⟨j, sv, tv, hj, rfl, hT⟩ := hrel
        have T := hid hT
        clear hT
        have j0 : (0 : Int) ≤ (j : Int) := by omega
        have j7 : (j : Int) ≤ 7 := by omega
        by_cases h0 : gk = 0
        · have j1 : ¬ (j : Int) < (K : Int) := by omega
          have OW1 := hid (fun w (k : Only [] w1 w) => OW.out.only0 k)
          have AR1 := hid (fun w (k : Only [] w1 w) => AR.out.only0 k)
          have LB : (List.replicate j true).length ≤ 100 := by rw [List.length_replicate]; omega
          generalize List.replicate j true = L at *
          have LB := hid LB
          clear hj h0 T3 j7 j0
          go_wp2_with fail
          refine (C1.out _ (HV.out.only0 (O1.out.trans T.out.only)) (OW1.out _ T.out.only)).mono ?_
          rintro e w4 ⟨rfl, hO4⟩
          have T4 := hid (T.out.keep hO4)
          clear hO4 T
          go_wp2_with fail
          refine (C2.out _ (AR1.out _ T4.out.only)).mono ?_
          rintro e w5 ⟨rfl, hO5⟩
          have T5 := hid (T4.out.keep hO5)
          clear hO5 T4 C1 C2
          generalize checkI m t = k at *
          go_wp2_with fail
          refine (P1.out _ _ L _ (HV.out.only0 (O1.out.trans T5.out.only)) T5.out.wr (OW1.out _ T5.out.only) (T5.out.asideW OW.out) (by have := LB.out; omega)).mono ?_
          rintro e w6 ⟨rfl, sv6, hP6⟩
          have T6 := hid (T5.out.putW hP6)
          clear hP6 T5
          go_wp2_with fail
          refine (P2.out _ _ L _ T6.out.ref (AR1.out _ T6.out.only) (T6.out.asideR AR.out) (by have := LB.out; omega)).mono ?_
          rintro e w7 ⟨rfl, tv7, hP7⟩
          have T7 := hid (T6.out.putR hP7)
          clear hP7 T6 P1 P2
          generalize putI m L t = r at *
          obtain ⟨r1, r2⟩ := r
          dsimp only at *
          go_wp2_with fail
          refine (bits_any _ _ _ _ T7.out.wr).mono ?_
          rintro e w8 ⟨rfl, hO8⟩
          have T8 := hid (T7.out.keep hO8)
          clear hO8 T7
          go_wp2_with fail
          refine (rbits_any _ _ _ _ T8.out.ref).mono ?_
          rintro e w9 ⟨rfl, hO9⟩
          go_wp2_with fail
          go_roundg g
          case measure => omega
          case rel => exact ⟨i + 1, IG.out, by go_num, hO9 ▸ T8.out.only⟩
        · have j1 : (j : Int) < (K : Int) := by omega
          obtain ⟨g2, rfl⟩ : ∃ g2, gk = g2 + 1 := ⟨gk - 1, by omega⟩
          have JG := hid (show j + 1 + g2 = K by omega)
          have jn : j ≤ 7 := by omega
          clear hj h0
          go_wp2_with fail
          refine (put_one _ _ j _ T.out.wr (by omega)).mono ?_
          rintro e w4 ⟨rfl, sv', hP⟩
          have T4 := hid (T.out.putW hP)
          clear hP
          go_wp2_with fail
          refine (rput_one _ _ j _ T4.out.ref (by omega)).mono ?_
          rintro e w5 ⟨rfl, tv', hP⟩
          have T5 := hid (T4.out.putR hP)
          clear hP T4
          go_wp2_with fail
          go_roundg g2
          case measure => omega
          case rel => exact ⟨j + 1, sv', tv', JG.out, by go_num, T5.out⟩
end Go.Proofs.YtdkmeldcpamnnaaDoor
