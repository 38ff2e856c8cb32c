/- The reference's At, Block, Left, Above, ChLeft, ChAbove, Near. -/
import Derived.Test.YtnpfjmblgjojcaaDoorRows
import Derived.Test.YtnpfjmblgjojcaaDoorPlM
import Derived.Deep.LoopGhost
import Derived.RegionTactic
import Derived.ChangeAlike
import Derived.Deep.QuietTactic
import Derived.BigQuiet
import Derived.OwnWalk
namespace Go.Proofs.YtnpfjmblgjojcaaDoor
open Go.RowKit
set_option linter.unusedVariables false

set_option maxHeartbeats 400000 in
theorem rat11_any (k : Int) (w : World) : Calls Tryd.prog 18 #[.int .i64 k] w fun e w' => e = .returned (.tuple #[.int .i64 (atI k).1, .int .i64 (atI k).2.1, .int .i64 (atI k).2.2]) ∧ Only [] w w' := by
  by_cases h : 0 ≤ k
  · by_cases h2 : k ≤ 15
    · unfold atI
      rw [if_pos ⟨h, h2⟩]
      go_enter Tryd.func18, Tryd.ntmps18
      go_wp2_with fail
      go_ret3
      exact ⟨rfl, Only.refl _ _⟩
    · rw [atI_out (fun x => h2 x.2)]
      go_enter Tryd.func18, Tryd.ntmps18
      go_wp2_with fail
      go_ret3
      exact ⟨rfl, Only.refl _ _⟩
  · rw [atI_out (fun x => h x.1)]
    go_enter Tryd.func18, Tryd.ntmps18
    go_wp2_with fail
    go_ret3
    exact ⟨rfl, Only.refl _ _⟩
set_option maxHeartbeats 1000000 in
theorem rblock11_any (x y : Int) (w : World) : Calls Tryd.prog 19 #[.int .i64 x, .int .i64 y] w fun e w' => e = .returned (.tuple #[.int .i64 (blockI x y).1, .int .i64 (blockI x y).2]) ∧ Only [] w w' := by
  obtain ⟨r, hr⟩ : ∃ r, r = blockI x y := ⟨_, rfl⟩
  have R := hid hr
  rw [← hr]
  clear hr
  go_enter Tryd.func19, Tryd.ntmps19
  go_wp2_with fail
  go_loopg [6] 16 (fun g t wr => ∃ j : Nat, j + g = 16 ∧ t = .int .i64 j ∧ (∀ i : Nat, i < j → ¬ ((atI (i : Int)).1 = x ∧ (atI (i : Int)).2.1 = y)) ∧ Only [] w wr)
  case atStart => exact ⟨0, by omega, rfl, fun i hi => absurd hi (by omega), Only.refl _ _⟩
  case round =>
    obtain ⟨j, hj, rfl, hn, hO⟩ := hrel
    have O := hid hO
    have NO := hid hn
    clear hn hO
    have j0 : (0 : Int) ≤ (j : Int) := by omega
    by_cases hg : gk = 0
    · obtain rfl : j = 16 := by omega
      obtain rfl : r = (0, 3) := by
        rw [R.out]
        refine block_out fun h => ?_
        obtain ⟨b, h1, _⟩ := at_block h
        refine NO.out (blockI x y).1.toNat (by omega) ?_
        rw [show (((blockI x y).1.toNat : Nat) : Int) = (blockI x y).1 by omega, h1]
        exact ⟨rfl, rfl⟩
      clear hj hg
      go_wp2_with fail
      go_ret2
      exact ⟨rfl, O.out⟩
    · have g1 : (j : Int) < 16 := by omega
      obtain ⟨g, rfl⟩ : ∃ g, gk = g + 1 := ⟨gk - 1, by omega⟩
      have JG := hid (show j + 1 + g = 16 by omega)
      have IN := hid (show (0 : Int) ≤ (j : Int) ∧ (j : Int) ≤ 15 by omega)
      clear hj hg
      go_wp2_with fail
      refine (rat11_any (j : Int) wr).mono ?_
      rintro e w2 ⟨rfl, hO⟩
      have O2 := hid (O.out.trans hO)
      clear hO
      obtain ⟨ax, hax⟩ : ∃ v, v = (atI (j : Int)).1 := ⟨_, rfl⟩
      obtain ⟨ay, hay⟩ : ∃ v, v = (atI (j : Int)).2.1 := ⟨_, rfl⟩
      obtain ⟨ae, hae⟩ : ∃ v, v = (atI (j : Int)).2.2 := ⟨_, rfl⟩
      rw [← hax, ← hay, ← hae]
      have AX := hid hax
      have AY := hid hay
      clear hax hay hae
      by_cases c1 : ax = x
      · by_cases c2 : ay = y
        · obtain rfl : r = ((j : Int), 0) := by
            rw [R.out]
            have h3 := (at_iff (x := x) (y := y) IN.out).1 ⟨by rw [← AX.out]; exact c1, by rw [← AY.out]; exact c2⟩
            exact Prod.ext h3.2 (at_block h3.1).2.2
          go_wp2_with fail
          go_ret2
          exact ⟨rfl, O2.out⟩
        · have NX := hid (show ∀ i : Nat, i < j + 1 → ¬ ((atI (i : Int)).1 = x ∧ (atI (i : Int)).2.1 = y) from fun i hi => by
            by_cases e : i = j
            · subst e; rw [← AX.out, ← AY.out]; exact fun h => c2 h.2
            · exact NO.out i (by omega))
          go_wp2_with fail
          go_roundg g
          case measure => omega
          case rel => exact ⟨j + 1, JG.out, by go_num, NX.out, O2.out⟩
      · have NX := hid (show ∀ i : Nat, i < j + 1 → ¬ ((atI (i : Int)).1 = x ∧ (atI (i : Int)).2.1 = y) from fun i hi => by
          by_cases e : i = j
          · subst e; rw [← AX.out, ← AY.out]; exact fun h => c1 h.1
          · exact NO.out i (by omega))
        go_wp2_with fail
        go_roundg g
        case measure => omega
        case rel => exact ⟨j + 1, JG.out, by go_num, NX.out, O2.out⟩
set_option maxHeartbeats 1000000 in
theorem rleft11_any (k : Int) (w : World) : Calls Tryd.prog 20 #[.int .i64 k] w fun e w' => e = .returned (.tuple #[.int .i64 (leftI k).1, .bool (leftI k).2.1, .int .i64 (leftI k).2.2]) ∧ Only [] w w' := by
  have AT := hid (rat11_any k w)
  by_cases h : 0 ≤ k ∧ k ≤ 15
  · have I := atI_in h
    have B := hid (fun w => rblock11_any (((atI k).1 + 3) % 4) (atI k).2.1 w)
    unfold leftI
    rw [if_pos h]
    rw [I.2.2] at AT
    generalize (atI k).1 = a at *
    generalize (atI k).2.1 = b at *
    obtain ⟨⟨a0, a1⟩, ⟨b0, b1⟩, _⟩ := I
    obtain ⟨⟨n, e⟩, hr⟩ : ∃ r, r = blockI ((a + 3) % 4) b := ⟨_, rfl⟩
    rw [← hr] at B ⊢
    clear h hr
    go_enter Tryd.func20, Tryd.ntmps20
    go_wp2_with fail
    refine AT.out.mono ?_
    rintro e1 w1 ⟨rfl, hO1⟩
    have O1 := hid hO1
    clear hO1 AT
    go_wp2_with fail
    refine (B.out _).mono ?_
    rintro e1 w2 ⟨rfl, hO2⟩
    have O2 := hid (O1.out.trans hO2)
    clear hO2 B O1
    go_wp2_with fail
    go_ret3
    exact ⟨rfl, O2.out⟩
  · rw [atI_out h] at AT
    unfold leftI
    rw [if_neg h]
    clear h
    go_enter Tryd.func20, Tryd.ntmps20
    go_wp2_with fail
    refine AT.out.mono ?_
    rintro e1 w1 ⟨rfl, hO1⟩
    go_wp2_with fail
    go_ret3
    exact ⟨rfl, hO1⟩
set_option maxHeartbeats 1000000 in
theorem rabove11_any (k : Int) (w : World) : Calls Tryd.prog 21 #[.int .i64 k] w fun e w' => e = .returned (.tuple #[.int .i64 (aboveI k).1, .bool (aboveI k).2.1, .int .i64 (aboveI k).2.2]) ∧ Only [] w w' := by
  have AT := hid (rat11_any k w)
  by_cases h : 0 ≤ k ∧ k ≤ 15
  · have I := atI_in h
    have B := hid (fun w => rblock11_any (atI k).1 (((atI k).2.1 + 3) % 4) w)
    unfold aboveI
    rw [if_pos h]
    rw [I.2.2] at AT
    generalize (atI k).1 = a at *
    generalize (atI k).2.1 = b at *
    obtain ⟨⟨a0, a1⟩, ⟨b0, b1⟩, _⟩ := I
    obtain ⟨⟨n, e⟩, hr⟩ : ∃ r, r = blockI a ((b + 3) % 4) := ⟨_, rfl⟩
    rw [← hr] at B ⊢
    clear h hr
    go_enter Tryd.func21, Tryd.ntmps21
    go_wp2_with fail
    refine AT.out.mono ?_
    rintro e1 w1 ⟨rfl, hO1⟩
    have O1 := hid hO1
    clear hO1 AT
    go_wp2_with fail
    refine (B.out _).mono ?_
    rintro e1 w2 ⟨rfl, hO2⟩
    have O2 := hid (O1.out.trans hO2)
    clear hO2 B O1
    go_wp2_with fail
    go_ret3
    exact ⟨rfl, O2.out⟩
  · rw [atI_out h] at AT
    unfold aboveI
    rw [if_neg h]
    clear h
    go_enter Tryd.func21, Tryd.ntmps21
    go_wp2_with fail
    refine AT.out.mono ?_
    rintro e1 w1 ⟨rfl, hO1⟩
    go_wp2_with fail
    go_ret3
    exact ⟨rfl, hO1⟩
set_option maxHeartbeats 400000 in
theorem rchleft11_any (k : Int) (w : World) : Calls Tryd.prog 22 #[.int .i64 k] w fun e w' => e = .returned (.tuple #[.int .i64 (chLeftI k).1, .bool (chLeftI k).2.1, .int .i64 (chLeftI k).2.2]) ∧ Only [] w w' := by
  unfold chLeftI
  by_cases h0 : 0 ≤ k
  · by_cases h1 : k ≤ 3
    · rw [if_pos ⟨h0, h1⟩]
      by_cases h2 : k % 2 = 1
      · rw [if_pos h2]
        go_enter Tryd.func22, Tryd.ntmps22
        go_wp2_with fail
        go_ret3
        exact ⟨rfl, Only.refl _ _⟩
      · rw [if_neg h2]
        go_enter Tryd.func22, Tryd.ntmps22
        go_wp2_with fail
        go_ret3
        exact ⟨rfl, Only.refl _ _⟩
    · rw [if_neg (fun x => h1 x.2)]
      go_enter Tryd.func22, Tryd.ntmps22
      go_wp2_with fail
      go_ret3
      exact ⟨rfl, Only.refl _ _⟩
  · rw [if_neg (fun x => h0 x.1)]
    go_enter Tryd.func22, Tryd.ntmps22
    go_wp2_with fail
    go_ret3
    exact ⟨rfl, Only.refl _ _⟩
set_option maxHeartbeats 400000 in
theorem rchabove11_any (k : Int) (w : World) : Calls Tryd.prog 23 #[.int .i64 k] w fun e w' => e = .returned (.tuple #[.int .i64 (chAboveI k).1, .bool (chAboveI k).2.1, .int .i64 (chAboveI k).2.2]) ∧ Only [] w w' := by
  unfold chAboveI
  by_cases h0 : 0 ≤ k
  · by_cases h1 : k ≤ 3
    · rw [if_pos ⟨h0, h1⟩]
      by_cases h2 : 1 < k
      · rw [if_pos h2]
        go_enter Tryd.func23, Tryd.ntmps23
        go_wp2_with fail
        go_ret3
        exact ⟨rfl, Only.refl _ _⟩
      · rw [if_neg h2]
        go_enter Tryd.func23, Tryd.ntmps23
        go_wp2_with fail
        go_ret3
        exact ⟨rfl, Only.refl _ _⟩
    · rw [if_neg (fun x => h1 x.2)]
      go_enter Tryd.func23, Tryd.ntmps23
      go_wp2_with fail
      go_ret3
      exact ⟨rfl, Only.refl _ _⟩
  · rw [if_neg (fun x => h0 x.1)]
    go_enter Tryd.func23, Tryd.ntmps23
    go_wp2_with fail
    go_ret3
    exact ⟨rfl, Only.refl _ _⟩
end Go.Proofs.YtnpfjmblgjojcaaDoor
