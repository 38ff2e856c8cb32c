/- PlaceRounds: the four walks. -/
import Derived.Test.YtnpfjmblgjojcaaDoorPlS
namespace Go.Proofs.YtnpfjmblgjojcaaDoor
open Go.RowKit
set_option linter.unusedVariables false

theorem round_l (x : Int) (h0 : 0 ≤ x) (h1 : x < 16) (w : World) (hV : PlV w) : Calls Tryd.prog 25 #[.func (.func 12) #[] #[], .func (.func 13) #[] #[], .int .i64 x, .int .i64 4] w fun e w' => e = .returned (.bool true) ∧ Only [] w w' :=
  round11_any leftI aboveI _ _ 16 x 4 w hV left_enters above_enters left_does above_does meet_luma h0 h1 (by decide) (by decide) (ends_luma x h0 h1).1.1 (ends_luma x h0 h1).1.2
theorem round_a (x : Int) (h0 : 0 ≤ x) (h1 : x < 16) (w : World) (hV : PlV w) : Calls Tryd.prog 25 #[.func (.func 13) #[] #[], .func (.func 12) #[] #[], .int .i64 x, .int .i64 4] w fun e w' => e = .returned (.bool true) ∧ Only [] w w' :=
  round11_any aboveI leftI _ _ 16 x 4 w hV above_enters left_enters above_does left_does meet_luma2 h0 h1 (by decide) (by decide) (ends_luma x h0 h1).2.1 (ends_luma x h0 h1).2.2
theorem round_cl (x : Int) (h0 : 0 ≤ x) (h1 : x < 4) (w : World) (hV : PlV w) : Calls Tryd.prog 25 #[.func (.func 14) #[] #[], .func (.func 15) #[] #[], .int .i64 x, .int .i64 2] w fun e w' => e = .returned (.bool true) ∧ Only [] w w' :=
  round11_any chLeftI chAboveI _ _ 4 x 2 w hV chleft_enters chabove_enters chleft_does chabove_does meet_ch h0 h1 (by decide) (by decide) (ends_ch x h0 h1).1.1 (ends_ch x h0 h1).1.2
theorem round_ca (x : Int) (h0 : 0 ≤ x) (h1 : x < 4) (w : World) (hV : PlV w) : Calls Tryd.prog 25 #[.func (.func 15) #[] #[], .func (.func 14) #[] #[], .int .i64 x, .int .i64 2] w fun e w' => e = .returned (.bool true) ∧ Only [] w w' :=
  round11_any chAboveI chLeftI _ _ 4 x 2 w hV chabove_enters chleft_enters chabove_does chleft_does meet_ch2 h0 h1 (by decide) (by decide) (ends_ch x h0 h1).2.1 (ends_ch x h0 h1).2.2
set_option maxHeartbeats 2000000 in
theorem prounds_any (k : Int) (w : World) (hV : PlV w) (b0 : -9223372036854775808 ≤ k) (b1 : k ≤ 9223372036854775807) :
    Calls Tryd.prog 7 #[.int .i64 k] w fun e w' => e = .returned (.bool true) ∧ Only [] w w' := by
  have V := hid hV
  clear hV
  have AL := hid (fun w V => alive_any w V)
  have q0 : 0 ≤ (k.tmod 16 + 16).tmod 16 ∧ (k.tmod 16 + 16).tmod 16 < 16 := by
    have h1 := Int.lt_tmod_of_pos k (show (0 : Int) < 16 by decide)
    have h2 := Int.tmod_lt_of_pos k (show (0 : Int) < 16 by decide)
    exact ⟨Int.tmod_nonneg _ (by omega), Int.tmod_lt_of_pos _ (by decide)⟩
  have r0 : 0 ≤ (k.tmod 4 + 4).tmod 4 ∧ (k.tmod 4 + 4).tmod 4 < 4 := by
    have h1 := Int.lt_tmod_of_pos k (show (0 : Int) < 4 by decide)
    have h2 := Int.tmod_lt_of_pos k (show (0 : Int) < 4 by decide)
    exact ⟨Int.tmod_nonneg _ (by omega), Int.tmod_lt_of_pos _ (by decide)⟩
  have i1a := Int.lt_tmod_of_pos k (show (0 : Int) < 16 by decide)
  have i1b := Int.tmod_lt_of_pos k (show (0 : Int) < 16 by decide)
  have i2a := Int.lt_tmod_of_pos k (show (0 : Int) < 4 by decide)
  have i2b := Int.tmod_lt_of_pos k (show (0 : Int) < 4 by decide)
  go_enter Tryd.func7, Tryd.ntmps7
  go_wp2_with fail
  refine (round_l _ (by first | exact q0.1 | omega) (by first | exact q0.2 | omega) _ V.out).mono ?_
  rintro e w1 ⟨rfl, hO⟩
  have V := hid (V.out.only0 hO)
  have O1 := hid hO
  clear hO
  go_wp2_with fail
  refine (round_a _ (by first | exact q0.1 | omega) (by first | exact q0.2 | omega) _ V.out).mono ?_
  rintro e w2 ⟨rfl, hO⟩
  have V := hid (V.out.only0 hO)
  have O2 := hid (O1.out.trans hO)
  clear hO
  go_wp2_with fail
  refine (round_cl _ (by first | exact r0.1 | omega) (by first | exact r0.2 | omega) _ V.out).mono ?_
  rintro e w3 ⟨rfl, hO⟩
  have V := hid (V.out.only0 hO)
  have O3 := hid (O2.out.trans hO)
  clear hO
  go_wp2_with fail
  refine (round_ca _ (by first | exact r0.1 | omega) (by first | exact r0.2 | omega) _ V.out).mono ?_
  rintro e w4 ⟨rfl, hO⟩
  have V := hid (V.out.only0 hO)
  have O4 := hid (O3.out.trans hO)
  clear hO
  go_wp2_with fail
  refine (AL.out _ V.out).mono ?_
  rintro e w5 ⟨rfl, hO⟩
  have V := hid (V.out.only0 hO)
  go_wp2_with fail
  go_ret
  exact ⟨rfl, O4.out.trans hO⟩
end Go.Proofs.YtnpfjmblgjojcaaDoor
