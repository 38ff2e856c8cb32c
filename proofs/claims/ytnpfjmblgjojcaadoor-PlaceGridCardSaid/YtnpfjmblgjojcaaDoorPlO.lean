/- PlaceRounds: steps to the left, or above, lead back. -/
import Derived.Test.YtnpfjmblgjojcaaDoorPlW
namespace Go.Proofs.YtnpfjmblgjojcaaDoor
open Go.RowKit
set_option linter.unusedVariables false

def goI (B : Int → Int × Bool × Int) (k : Int) : Nat → Int
  | 0 => k
  | j + 1 => (B (goI B k j)).1
def outI (B : Int → Int × Bool × Int) (k : Int) : Nat → Int
  | 0 => 0
  | j + 1 => outI B k j + if (B (goI B k j)).2.1 = true then 0 else 1
/-- Steps B and O of the blocks below K: no error, always another block, in either order. -/
def MeetI (B O : Int → Int × Bool × Int) (K : Int) : Prop :=
  ∀ x, 0 ≤ x → x < K → ((B x).2.2 = 0 ∧ (0 ≤ (B x).1 ∧ (B x).1 < K) ∧ ¬ (B x).1 = x) ∧ ((O x).2.2 = 0 ∧ 0 ≤ (O x).1 ∧ (O x).1 < K) ∧ (B (O x).1).1 = (O (B x).1).1
/-- The function f of the program does what B says. -/
def DoesI (f : Nat) (B : Int → Int × Bool × Int) : Prop :=
  ∀ (k : Int) (w : World), -9223372036854775808 ≤ k → k ≤ 9223372036854775807 → PlV w → Calls Tryd.prog f #[.int .i64 k] w fun e w' => e = .returned (.tuple #[.int .i64 (B k).1, .bool (B k).2.1, .int .i64 (B k).2.2]) ∧ Only [] w w'
theorem goI_in {B O : Int → Int × Bool × Int} {K k : Int} (hM : MeetI B O K) (k0 : 0 ≤ k) (k1 : k < K) : ∀ j, 0 ≤ goI B k j ∧ goI B k j < K
  | 0 => ⟨k0, k1⟩
  | j + 1 => ((hM _ (goI_in hM k0 k1 j).1 (goI_in hM k0 k1 j).2).1).2.1
theorem outI_in (B : Int → Int × Bool × Int) (k : Int) : ∀ j, 0 ≤ outI B k j ∧ outI B k j ≤ j
  | 0 => ⟨Int.le_refl _, Int.le_refl _⟩
  | j + 1 => by
    have := outI_in B k j
    simp only [outI]
    split <;> constructor <;> omega

set_option maxRecDepth 100000 in
set_option maxHeartbeats 2000000 in
theorem round11_any (B O : Int → Int × Bool × Int) (fb fo : Nat) (K k : Int) (m : Nat) (w : World) (hV : PlV w) (eb : ∀ args w, (callFunc fb args).run Tryd.prog w = .ok (.enter fb args) w) (eo : ∀ args w, (callFunc fo args).run Tryd.prog w = .ok (.enter fo args) w) (hB : DoesI fb B) (hO : DoesI fo O) (hM : MeetI B O K) (k0 : 0 ≤ k) (k1 : k < K) (hK : K ≤ 16) (hm : m ≤ 4) (hg : goI B k m = k) (hl : outI B k m = 1) :
    Calls Tryd.prog 25 #[.func (.func fb) #[] #[], .func (.func fo) #[] #[], .int .i64 k, .int .i64 m] w fun e w' => e = .returned (.bool true) ∧ Only [] w w' := by
  have V := hid hV
  clear hV
  have HB := hid hB
  have HO := hid hO
  have HM := hid hM
  have HG := hid hg
  have HL := hid hl
  clear hB hO hM hg hl
  go_enter Tryd.func25, Tryd.ntmps25
  go_wp2_with fail
  go_loopg [9, 10, 11] m (fun g t u v wr => ∃ j : Nat, j + g = m ∧ t = .int .i64 (goI B k j) ∧ u = .int .i64 (outI B k j) ∧ v = .int .i64 j ∧ Only [] w wr)
  case atStart => exact ⟨0, by omega, rfl, rfl, rfl, Only.refl _ _⟩
  case round =>
    obtain ⟨j, hj, rfl, rfl, rfl, hO⟩ := hrel
    have OO := hid hO
    have V := hid (V.out.only0 hO)
    clear hO
    have gi := goI_in HM.out k0 k1 j
    have oi := outI_in B k j
    by_cases hg : gk = 0
    · obtain rfl : j = m := by omega
      rw [HG.out, HL.out]
      clear gi oi hg
      go_wp2_with fail
      go_ret
      exact ⟨rfl, OO.out⟩
    · have hlt : (j : Int) < (m : Int) := by omega
      obtain ⟨g, rfl⟩ : ∃ g, gk = g + 1 := ⟨gk - 1, by omega⟩
      have JG := hid (show j + 1 + g = m by omega)
      have jb : (j : Int) ≤ 4 := by omega
      obtain ⟨⟨a1, ⟨a2, a3⟩, a4⟩, ⟨a5, a6, a7⟩, a8⟩ := HM.out _ gi.1 gi.2
      obtain ⟨⟨b1, -, -⟩, ⟨b2, -, -⟩, -⟩ := HM.out _ a2 a3
      obtain ⟨⟨c1, -, -⟩, -, -⟩ := HM.out _ a6 a7
      have C1 := hid (fun w V => HB.out (goI B k j) w (by omega) (by omega) V)
      have C2 := hid (fun w V => HO.out (B (goI B k j)).1 w (by omega) (by omega) V)
      have C3 := hid (fun w V => HO.out (goI B k j) w (by omega) (by omega) V)
      have C4 := hid (fun w V => HB.out (O (goI B k j)).1 w (by omega) (by omega) V)
      have G1 := hid (show goI B k (j + 1) = (B (goI B k j)).1 from rfl)
      have G2 := hid (show outI B k (j + 1) = outI B k j + if (B (goI B k j)).2.1 = true then 0 else 1 from rfl)
      rw [a1] at C1
      rw [b2] at C2
      rw [a5] at C3
      rw [c1, a8] at C4
      generalize outI B k j = l at *
      generalize goI B k j = x at *
      clear a1 b1 b2 c1 a5 a8 hj hg HM HB HO HG HL
      generalize (O (B x).1).1 = z at *
      generalize (O (B x).1).2.1 = s2 at *
      generalize (B (O x).1).2.1 = s4 at *
      generalize (B x).1 = y at *
      generalize (B x).2.1 = s at *
      generalize (O x).1 = b at *
      generalize (O x).2.1 = s3 at *
      obtain ⟨gi0, gi1⟩ := gi
      obtain ⟨oi0, oi1⟩ := oi
      cases s
      all_goals
        go_wp2_with fail
        refine (C1.out _ V.out).mono ?_
        rintro e w1 ⟨rfl, hO⟩
        have V := hid (V.out.only0 hO)
        have O1 := hid (OO.out.trans hO)
        clear hO
        go_wp2_with fail
        refine (C2.out _ V.out).mono ?_
        rintro e w2 ⟨rfl, hO⟩
        have V := hid (V.out.only0 hO)
        have O2 := hid (O1.out.trans hO)
        clear hO
        go_wp2_with fail
        refine (C3.out _ V.out).mono ?_
        rintro e w3 ⟨rfl, hO⟩
        have V := hid (V.out.only0 hO)
        have O3 := hid (O2.out.trans hO)
        clear hO
        go_wp2_with fail
        refine (C4.out _ V.out).mono ?_
        rintro e w4 ⟨rfl, hO⟩
        have V := hid (V.out.only0 hO)
        have O4 := hid (O3.out.trans hO)
        clear hO
        go_wp2_with fail
        go_roundg g
        case measure => omega
        case rel => exact ⟨j + 1, JG.out, by rw [G1.out], by rw [G2.out]; simp, by go_num, O4.out⟩

theorem left_does : DoesI 12 leftI := fun k w h0 h1 hV => left11_any k w h0 h1 hV
theorem above_does : DoesI 13 aboveI := fun k w h0 h1 hV => above11_any k w h0 h1 hV
theorem chleft_does : DoesI 14 chLeftI := fun k w h0 h1 hV => chleft11_any k w h0 h1 hV
theorem chabove_does : DoesI 15 chAboveI := fun k w h0 h1 hV => chabove11_any k w h0 h1 hV
theorem left_enters (args : Array Value) (w : World) : (callFunc 12 args).run Tryd.prog w = .ok (.enter 12 args) w := by kernel_rfl
theorem above_enters (args : Array Value) (w : World) : (callFunc 13 args).run Tryd.prog w = .ok (.enter 13 args) w := by kernel_rfl
theorem chleft_enters (args : Array Value) (w : World) : (callFunc 14 args).run Tryd.prog w = .ok (.enter 14 args) w := by kernel_rfl
theorem chabove_enters (args : Array Value) (w : World) : (callFunc 15 args).run Tryd.prog w = .ok (.enter 15 args) w := by kernel_rfl
end Go.Proofs.YtnpfjmblgjojcaaDoor
