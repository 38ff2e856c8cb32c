/- PlaceInverse: the walk. -/
import Derived.Test.YtnpfjmblgjojcaaDoorPlW
namespace Go.Proofs.YtnpfjmblgjojcaaDoor
open Go.RowKit
set_option linter.unusedVariables false

theorem leftI_e (k : Int) : (leftI k).2.2 = if 0 ≤ k ∧ k ≤ 15 then 0 else 3 := by unfold leftI; split <;> rfl
theorem aboveI_e (k : Int) : (aboveI k).2.2 = if 0 ≤ k ∧ k ≤ 15 then 0 else 3 := by unfold aboveI; split <;> rfl
theorem chLeftI_e (k : Int) : (chLeftI k).2.2 = if 0 ≤ k ∧ k ≤ 3 then 0 else 3 := by
  unfold chLeftI
  split
  · split <;> rfl
  · rfl
theorem chAboveI_e (k : Int) : (chAboveI k).2.2 = if 0 ≤ k ∧ k ≤ 3 then 0 else 3 := by
  unfold chAboveI
  split
  · split <;> rfl
  · rfl
set_option maxRecDepth 100000 in
set_option maxHeartbeats 4000000 in
theorem pinverse_any (k x y : Int) (w : World) (hV : PlV w) (b0 : -9223372036854775808 ≤ k) (b1 : k ≤ 9223372036854775807) (x0 : -9223372036854775808 ≤ x) (x1 : x ≤ 9223372036854775807) (y0 : -9223372036854775808 ≤ y) (y1 : y ≤ 9223372036854775807) :
    Calls Tryd.prog 6 #[.int .i64 k, .int .i64 x, .int .i64 y] w fun e w' => e = .returned (.bool true) ∧ Only [] w w' := by
  have V := hid hV
  clear hV
  have AT := hid (fun w V => at11_any k w b0 b1 V)
  have BX := hid (fun w => block11_any x y w x0 x1 y0 y1)
  have LE := hid (fun w V => left11_any k w b0 b1 V)
  have UP := hid (fun w V => above11_any k w b0 b1 V)
  have CL := hid (fun w V => chleft11_any k w b0 b1 V)
  have CU := hid (fun w V => chabove11_any k w b0 b1 V)
  have AL := hid (fun w V => alive_any w V)
  rw [leftI_e] at LE
  rw [aboveI_e] at UP
  rw [chLeftI_e] at CL
  rw [chAboveI_e] at CU
  obtain ⟨a, b, ea, q, eq, hA, hQ, ha, hb, hio⟩ : ∃ a b ea q eq, atI k = (a, b, ea) ∧ blockI a b = (q, eq) ∧ (0 ≤ a ∧ a ≤ 3) ∧ (0 ≤ b ∧ b ≤ 3) ∧ (((0 ≤ k ∧ k ≤ 15) ∧ ea = 0 ∧ q = k ∧ eq = 0) ∨ (¬ (0 ≤ k ∧ k ≤ 15) ∧ ea = 3 ∧ a = 0 ∧ b = 0)) := by
    by_cases h : 0 ≤ k ∧ k ≤ 15
    · obtain ⟨h1, h2, h3⟩ := atI_in h
      have h4 := block_at h
      exact ⟨(atI k).1, (atI k).2.1, (atI k).2.2, k, 0, rfl, h4, h1, h2, .inl ⟨h, h3, rfl, rfl⟩⟩
    · have h1 := atI_out h
      exact ⟨0, 0, 3, 0, 0, h1, by decide, by omega, by omega, .inr ⟨h, rfl, rfl, rfl⟩⟩
  have BA := hid (fun w => block11_any a b w (by omega) (by omega) (by omega) (by omega))
  rw [hA] at AT
  rw [hQ] at BA
  obtain ⟨n, f, hN, hxy⟩ : ∃ n f, blockI x y = (n, f) ∧ ((((0 ≤ x ∧ x ≤ 3) ∧ 0 ≤ y ∧ y ≤ 3) ∧ f = 0 ∧ (0 ≤ n ∧ n ≤ 15) ∧ atI n = (x, y, 0)) ∨ (¬ ((0 ≤ x ∧ x ≤ 3) ∧ 0 ≤ y ∧ y ≤ 3) ∧ f = 3)) := by
    by_cases h : (0 ≤ x ∧ x ≤ 3) ∧ 0 ≤ y ∧ y ≤ 3
    · obtain ⟨h1, h2, h3⟩ := at_block h
      exact ⟨_, _, rfl, .inl ⟨h, h3, h1, h2⟩⟩
    · exact ⟨0, 3, block_out h, .inr ⟨h, rfl⟩⟩
  rw [hN] at BX
  generalize (leftI k).1 = l1 at *
  generalize (leftI k).2.1 = l2 at *
  generalize (aboveI k).1 = u1 at *
  generalize (aboveI k).2.1 = u2 at *
  generalize (chLeftI k).1 = m1 at *
  generalize (chLeftI k).2.1 = m2 at *
  generalize (chAboveI k).1 = v1 at *
  generalize (chAboveI k).2.1 = v2 at *
  clear hA hQ hN
  have hk : (0 ≤ k ∧ k ≤ 3) ∨ (3 < k ∧ k ≤ 15) ∨ k < 0 ∨ 15 < k := by omega
  rcases hxy with ⟨⟨⟨xx0, xx1⟩, yy0, yy1⟩, rfl, hn, hat⟩ | ⟨hno, rfl⟩
  · have AN := hid (fun w V => at11_any n w (by omega) (by omega) V)
    rw [hat] at AN
    clear hat hn
    have dy : decide (y < 4) = true := decide_eq_true (by omega)
    rcases hk with ⟨k0, k1⟩ | ⟨k0, k1⟩ | k0 | k0
    all_goals
      first
        | rw [if_pos (by omega)] at LE UP
        | rw [if_neg (by omega)] at LE UP
      first
        | rw [if_pos (by omega)] at CL CU
        | rw [if_neg (by omega)] at CL CU
      first
        | have dk : decide (k < 4) = true := decide_eq_true (by omega)
        | have dk : decide (k < 4) = false := decide_eq_false (by omega)
      rcases hio with ⟨hin, rfl, rfl, rfl⟩ | ⟨hin, rfl, rfl, rfl⟩
      all_goals first | omega | skip
      all_goals
        go_enter Tryd.func6, Tryd.ntmps6
        go_wp2_with fail
        refine (AT.out _ V.out).mono ?_
        rintro e w1 ⟨rfl, hO⟩
        have V := hid (V.out.only0 hO)
        have O1 := hid hO
        clear hO
        go_wp2_with fail
        refine (BA.out _).mono ?_
        rintro e w2 ⟨rfl, hO⟩
        have V := hid (V.out.only0 hO)
        have O2 := hid (O1.out.trans hO)
        clear hO
        go_wp2_with fail
        refine (BX.out _).mono ?_
        rintro e w3 ⟨rfl, hO⟩
        have V := hid (V.out.only0 hO)
        have O3 := hid (O2.out.trans hO)
        clear hO
        go_wp2_with fail
        refine (AN.out _ V.out).mono ?_
        rintro e w4 ⟨rfl, hO⟩
        have V := hid (V.out.only0 hO)
        have O4 := hid (O3.out.trans hO)
        clear hO
        go_wp2_with fail
        refine (LE.out _ V.out).mono ?_
        rintro e w5 ⟨rfl, hO⟩
        have V := hid (V.out.only0 hO)
        have O5 := hid (O4.out.trans hO)
        clear hO
        go_wp2_with fail
        refine (UP.out _ V.out).mono ?_
        rintro e w6 ⟨rfl, hO⟩
        have V := hid (V.out.only0 hO)
        have O6 := hid (O5.out.trans hO)
        clear hO
        go_wp2_with fail
        refine (CL.out _ V.out).mono ?_
        rintro e w7 ⟨rfl, hO⟩
        have V := hid (V.out.only0 hO)
        have O7 := hid (O6.out.trans hO)
        clear hO
        go_wp2_with fail
        refine (CU.out _ V.out).mono ?_
        rintro e w8 ⟨rfl, hO⟩
        have V := hid (V.out.only0 hO)
        have O8 := hid (O7.out.trans hO)
        clear hO
        go_wp2_with fail
        refine (AL.out _ V.out).mono ?_
        rintro e w9 ⟨rfl, hO⟩
        have V := hid (V.out.only0 hO)
        go_wp2_with fail
        go_ret
        exact ⟨rfl, O8.out.trans hO⟩
  · have hz : x < 0 ∨ 3 < x ∨ ((0 ≤ x ∧ x ≤ 3) ∧ y < 0) ∨ ((0 ≤ x ∧ x ≤ 3) ∧ 0 ≤ y ∧ 3 < y) := by omega
    clear hno
    rcases hz with z0 | z0 | ⟨⟨z0, z1⟩, z2⟩ | ⟨⟨z0, z1⟩, z2, z3⟩
    all_goals first
      | have dy : decide (y < 4) = true := decide_eq_true (by omega)
      | have dy : decide (y < 4) = false := decide_eq_false (by omega)
      | skip
    all_goals rcases hk with ⟨k0, k1⟩ | ⟨k0, k1⟩ | k0 | k0
    all_goals
      first
        | rw [if_pos (by omega)] at LE UP
        | rw [if_neg (by omega)] at LE UP
      first
        | rw [if_pos (by omega)] at CL CU
        | rw [if_neg (by omega)] at CL CU
      first
        | have dk : decide (k < 4) = true := decide_eq_true (by omega)
        | have dk : decide (k < 4) = false := decide_eq_false (by omega)
      rcases hio with ⟨hin, rfl, rfl, rfl⟩ | ⟨hin, rfl, rfl, rfl⟩
      all_goals first | omega | skip
      all_goals
        go_enter Tryd.func6, Tryd.ntmps6
        go_wp2_with fail
        refine (AT.out _ V.out).mono ?_
        rintro e w1 ⟨rfl, hO⟩
        have V := hid (V.out.only0 hO)
        have O1 := hid hO
        clear hO
        go_wp2_with fail
        refine (BA.out _).mono ?_
        rintro e w2 ⟨rfl, hO⟩
        have V := hid (V.out.only0 hO)
        have O2 := hid (O1.out.trans hO)
        clear hO
        go_wp2_with fail
        refine (BX.out _).mono ?_
        rintro e w3 ⟨rfl, hO⟩
        have V := hid (V.out.only0 hO)
        have O3 := hid (O2.out.trans hO)
        clear hO
        have O4 := O3
        go_wp2_with fail
        refine (LE.out _ V.out).mono ?_
        rintro e w5 ⟨rfl, hO⟩
        have V := hid (V.out.only0 hO)
        have O5 := hid (O4.out.trans hO)
        clear hO
        go_wp2_with fail
        refine (UP.out _ V.out).mono ?_
        rintro e w6 ⟨rfl, hO⟩
        have V := hid (V.out.only0 hO)
        have O6 := hid (O5.out.trans hO)
        clear hO
        go_wp2_with fail
        refine (CL.out _ V.out).mono ?_
        rintro e w7 ⟨rfl, hO⟩
        have V := hid (V.out.only0 hO)
        have O7 := hid (O6.out.trans hO)
        clear hO
        go_wp2_with fail
        refine (CU.out _ V.out).mono ?_
        rintro e w8 ⟨rfl, hO⟩
        have V := hid (V.out.only0 hO)
        have O8 := hid (O7.out.trans hO)
        clear hO
        go_wp2_with fail
        refine (AL.out _ V.out).mono ?_
        rintro e w9 ⟨rfl, hO⟩
        have V := hid (V.out.only0 hO)
        go_wp2_with fail
        go_ret
        exact ⟨rfl, O8.out.trans hO⟩
end Go.Proofs.YtnpfjmblgjojcaaDoor
