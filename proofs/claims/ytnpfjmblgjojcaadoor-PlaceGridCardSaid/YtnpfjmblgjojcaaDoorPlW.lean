/- The laws' alive; PlaceMatches, PlaceNears, PlaceInverse: the walks. -/
import Derived.Test.YtnpfjmblgjojcaaDoorPlP
namespace Go.Proofs.YtnpfjmblgjojcaaDoor
open Go.RowKit
set_option linter.unusedVariables false

set_option maxHeartbeats 1000000 in
theorem alive_any (w : World) (hV : PlV w) : Calls Tryd.prog 17 #[] w fun e w' => e = .returned (.bool true) ∧ Only [] w w' := by
  have V := hid hV
  clear hV
  have A1 := hid (fun w V => at11_any 13 w (by omega) (by omega) V)
  have A2 := hid (fun w V => left11_any 0 w (by omega) (by omega) V)
  have A3 := hid (fun w => near11_any 5 0 4 w (by omega) (by omega) (by omega) (by omega) (by omega) (by omega))
  rw [show atI 13 = (3, 2, 0) from by decide] at A1
  rw [show leftI 0 = (5, false, 0) from by decide] at A2
  rw [show nearI 5 0 4 = (4, 1, 0) from by decide] at A3
  go_enter Tryd.func17, Tryd.ntmps17
  go_wp2_with fail
  refine (A1.out _ V.out).mono ?_
  rintro e w1 ⟨rfl, hO1⟩
  have V := hid (V.out.only0 hO1)
  have O1 := hid hO1
  clear hO1
  go_wp2_with fail
  refine (A2.out _ V.out).mono ?_
  rintro e w2 ⟨rfl, hO2⟩
  have V := hid (V.out.only0 hO2)
  have O2 := hid (O1.out.trans hO2)
  clear hO2
  go_wp2_with fail
  refine (A3.out _).mono ?_
  rintro e w3 ⟨rfl, hO3⟩
  have V := hid (V.out.only0 hO3)
  go_wp2_with fail
  go_ret
  exact ⟨rfl, O2.out.trans hO3⟩

set_option maxRecDepth 100000 in
set_option maxHeartbeats 2000000 in
theorem pmatches_any (k x y : Int) (w : World) (hV : PlV w) (b0 : -9223372036854775808 ≤ k) (b1 : k ≤ 9223372036854775807) (x0 : -9223372036854775808 ≤ x) (x1 : x ≤ 9223372036854775807) (y0 : -9223372036854775808 ≤ y) (y1 : y ≤ 9223372036854775807) :
    Calls Tryd.prog 4 #[.int .i64 k, .int .i64 x, .int .i64 y] w fun e w' => e = .returned (.bool true) ∧ Only [] w w' := by
  have V := hid hV
  clear hV
  have A1 := hid (fun w V => at11_any k w b0 b1 V)
  have A2 := hid (fun w => rat11_any k w)
  have B1 := hid (fun w => block11_any x y w x0 x1 y0 y1)
  have B2 := hid (fun w => rblock11_any x y w)
  have C1 := hid (fun w V => left11_any k w b0 b1 V)
  have C2 := hid (fun w => rleft11_any k w)
  have D1 := hid (fun w V => above11_any k w b0 b1 V)
  have D2 := hid (fun w => rabove11_any k w)
  have E1 := hid (fun w V => chleft11_any k w b0 b1 V)
  have E2 := hid (fun w => rchleft11_any k w)
  have F1 := hid (fun w V => chabove11_any k w b0 b1 V)
  have F2 := hid (fun w => rchabove11_any k w)
  have AL := hid (fun w V => alive_any w V)
  generalize atI k = a at *
  generalize blockI x y = b at *
  generalize leftI k = c at *
  generalize aboveI k = d at *
  generalize chLeftI k = e at *
  generalize chAboveI k = f at *
  obtain ⟨a1, a2, a3⟩ := a
  obtain ⟨b1, b2⟩ := b
  obtain ⟨c1, c2, c3⟩ := c
  obtain ⟨d1, d2, d3⟩ := d
  obtain ⟨e1, e2, e3⟩ := e
  obtain ⟨f1, f2, f3⟩ := f
  go_enter Tryd.func4, Tryd.ntmps4
  go_wp2_with fail
  refine (A1.out _ V.out).mono ?_
  rintro e w1 ⟨rfl, hO⟩
  have V := hid (V.out.only0 hO)
  have O1 := hid hO
  clear hO
  go_wp2_with fail
  refine (A2.out _).mono ?_
  rintro e w2 ⟨rfl, hO⟩
  have V := hid (V.out.only0 hO)
  have O2 := hid (O1.out.trans hO)
  clear hO
  go_wp2_with fail
  refine (B1.out _).mono ?_
  rintro e w3 ⟨rfl, hO⟩
  have V := hid (V.out.only0 hO)
  have O3 := hid (O2.out.trans hO)
  clear hO
  go_wp2_with fail
  refine (B2.out _).mono ?_
  rintro e w4 ⟨rfl, hO⟩
  have V := hid (V.out.only0 hO)
  have O4 := hid (O3.out.trans hO)
  clear hO
  go_wp2_with fail
  refine (C1.out _ V.out).mono ?_
  rintro e w5 ⟨rfl, hO⟩
  have V := hid (V.out.only0 hO)
  have O5 := hid (O4.out.trans hO)
  clear hO
  go_wp2_with fail
  refine (C2.out _).mono ?_
  rintro e w6 ⟨rfl, hO⟩
  have V := hid (V.out.only0 hO)
  have O6 := hid (O5.out.trans hO)
  clear hO
  go_wp2_with fail
  refine (D1.out _ V.out).mono ?_
  rintro e w7 ⟨rfl, hO⟩
  have V := hid (V.out.only0 hO)
  have O7 := hid (O6.out.trans hO)
  clear hO
  go_wp2_with fail
  refine (D2.out _).mono ?_
  rintro e w8 ⟨rfl, hO⟩
  have V := hid (V.out.only0 hO)
  have O8 := hid (O7.out.trans hO)
  clear hO
  go_wp2_with fail
  refine (E1.out _ V.out).mono ?_
  rintro e w9 ⟨rfl, hO⟩
  have V := hid (V.out.only0 hO)
  have O9 := hid (O8.out.trans hO)
  clear hO
  go_wp2_with fail
  refine (E2.out _).mono ?_
  rintro e w10 ⟨rfl, hO⟩
  have V := hid (V.out.only0 hO)
  have O10 := hid (O9.out.trans hO)
  clear hO
  go_wp2_with fail
  refine (F1.out _ V.out).mono ?_
  rintro e w11 ⟨rfl, hO⟩
  have V := hid (V.out.only0 hO)
  have O11 := hid (O10.out.trans hO)
  clear hO
  go_wp2_with fail
  refine (F2.out _).mono ?_
  rintro e w12 ⟨rfl, hO⟩
  have V := hid (V.out.only0 hO)
  have O12 := hid (O11.out.trans hO)
  clear hO
  go_wp2_with fail
  refine (AL.out _ V.out).mono ?_
  rintro e w13 ⟨rfl, hO⟩
  have V := hid (V.out.only0 hO)
  go_wp2_with fail
  go_ret
  exact ⟨rfl, O12.out.trans hO⟩
set_option maxHeartbeats 1000000 in
theorem pnears_any (a f v : Int) (w : World) (hV : PlV w) (a0 : -9223372036854775808 ≤ a) (a1 : a ≤ 9223372036854775807) (f0 : -9223372036854775808 ≤ f) (f1 : f ≤ 9223372036854775807) (v0 : -9223372036854775808 ≤ v) (v1 : v ≤ 9223372036854775807) :
    Calls Tryd.prog 5 #[.int .i64 a, .int .i64 f, .int .i64 v] w fun e w' => e = .returned (.bool true) ∧ Only [] w w' := by
  have V := hid hV
  clear hV
  have A1 := hid (fun w => near11_any a f v w a0 a1 f0 f1 v0 v1)
  have A2 := hid (fun w => rnear11_any a f v w a0 a1)
  have AL := hid (fun w V => alive_any w V)
  generalize nearI a f v = r at *
  obtain ⟨r1, r2, r3⟩ := r
  go_enter Tryd.func5, Tryd.ntmps5
  go_wp2_with fail
  refine (A1.out _).mono ?_
  rintro e w1 ⟨rfl, hO⟩
  have V := hid (V.out.only0 hO)
  have O1 := hid hO
  clear hO
  go_wp2_with fail
  refine (A2.out _).mono ?_
  rintro e w2 ⟨rfl, hO⟩
  have V := hid (V.out.only0 hO)
  have O2 := hid (O1.out.trans hO)
  clear hO
  go_wp2_with fail
  refine (AL.out _ V.out).mono ?_
  rintro e w3 ⟨rfl, hO⟩
  have V := hid (V.out.only0 hO)
  go_wp2_with fail
  go_ret
  exact ⟨rfl, O2.out.trans hO⟩
end Go.Proofs.YtnpfjmblgjojcaaDoor
