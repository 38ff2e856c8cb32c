/- The reference's Near. -/
import Derived.Test.YtnpfjmblgjojcaaDoorPlR
namespace Go.Proofs.YtnpfjmblgjojcaaDoor
open Go.RowKit
set_option linter.unusedVariables false

set_option maxHeartbeats 1000000 in
theorem rnear11_any (a f v : Int) (w : World) (a0 : -9223372036854775808 ≤ a) (a1 : a ≤ 9223372036854775807) : Calls Tryd.prog 24 #[.int .i64 a, .int .i64 f, .int .i64 v] w fun e w' => e = .returned (.tuple #[.int .i64 (nearI a f v).1, .int .i64 (nearI a f v).2.1, .int .i64 (nearI a f v).2.2]) ∧ Only [] w w' := by
  unfold nearI
  by_cases h : (1 ≤ v ∧ v ≤ 128) ∧ (0 ≤ f ∧ f < 8160) ∧ f ≤ a ∧ a < 8160
  · rw [if_pos h]
    obtain ⟨⟨h1, h2⟩, ⟨h3, h4⟩, h5, h6⟩ := h
    have h7 : 0 ≤ a := by omega
    have nz : ¬ v = 0 := by omega
    by_cases c1 : a % v = 0
    · rw [if_neg (fun x => x.1 c1)]
      by_cases c3 : f ≤ a - v
      · rw [if_pos c3]
        go_enter Tryd.func24, Tryd.ntmps24
        go_wp2_with fail
        go_ret3
        exact ⟨rfl, Only.refl _ _⟩
      · rw [if_neg c3]
        go_enter Tryd.func24, Tryd.ntmps24
        go_wp2_with fail
        go_ret3
        exact ⟨rfl, Only.refl _ _⟩
    · by_cases c2 : f ≤ a - 1
      · rw [if_pos ⟨c1, c2⟩]
        by_cases c3 : f ≤ a - v
        · rw [if_pos c3]
          go_enter Tryd.func24, Tryd.ntmps24
          go_wp2_with fail
          go_ret3
          exact ⟨rfl, Only.refl _ _⟩
        · rw [if_neg c3]
          go_enter Tryd.func24, Tryd.ntmps24
          go_wp2_with fail
          go_ret3
          exact ⟨rfl, Only.refl _ _⟩
      · rw [if_neg (fun x => c2 x.2), if_neg (show ¬ f ≤ a - v by omega)]
        go_enter Tryd.func24, Tryd.ntmps24
        go_wp2_with fail
        go_ret3
        exact ⟨rfl, Only.refl _ _⟩
  · rw [if_neg h]
    by_cases h1 : 1 ≤ v
    · by_cases h2 : v ≤ 128
      · by_cases h3 : 0 ≤ f
        · by_cases h4 : f < 8160
          · by_cases h5 : f ≤ a
            · have h6 : ¬ a < 8160 := by omega
              clear h
              go_enter Tryd.func24, Tryd.ntmps24
              go_wp2_with fail
              go_ret3
              exact ⟨rfl, Only.refl _ _⟩
            · clear h
              go_enter Tryd.func24, Tryd.ntmps24
              go_wp2_with fail
              go_ret3
              exact ⟨rfl, Only.refl _ _⟩
          · clear h
            go_enter Tryd.func24, Tryd.ntmps24
            go_wp2_with fail
            go_ret3
            exact ⟨rfl, Only.refl _ _⟩
        · clear h
          go_enter Tryd.func24, Tryd.ntmps24
          go_wp2_with fail
          go_ret3
          exact ⟨rfl, Only.refl _ _⟩
      · clear h
        go_enter Tryd.func24, Tryd.ntmps24
        go_wp2_with fail
        go_ret3
        exact ⟨rfl, Only.refl _ _⟩
    · clear h
      go_enter Tryd.func24, Tryd.ntmps24
      go_wp2_with fail
      go_ret3
      exact ⟨rfl, Only.refl _ _⟩
end Go.Proofs.YtnpfjmblgjojcaaDoor
