/- The program's check. -/
import Derived.Test.YtdkmeldcpamnnaaDoorMpA
import Derived.Deep.DeepCutAuto
import Derived.Deep.LoopGhost
namespace Go.Proofs.YtdkmeldcpamnnaaDoor
open Go.RowKit
set_option linter.unusedVariables false

set_option maxRecDepth 100000 in
set_option maxHeartbeats 8000000 in
theorem checkcmd_any (m : Bool) (x : Int × Int × Int) (hx : OkM x) (w : World) : Calls Tryd.prog 59 #[kindV m, .agg #[.int .u8 x.1, .int .i64 x.2.1, .int .i64 x.2.2]] w fun e w' => e = .returned (.int .i64 (errI m x)) ∧ Only [] w w' := by
  obtain ⟨⟨o0, o1⟩, ⟨p0, p1⟩, ⟨q0, q1⟩⟩ := hx
  have HN := hasI_n (m := m) (op := x.1)
  have CC := hid (fun w => count_any m x.1 o0 w)
  have E1 : errI m x = if (hasI m x.1).2 = false then 9 else if ((hasI m x.1).1 < 2 ∧ x.2.2 ≠ 0) ∨ ((hasI m x.1).1 < 1 ∧ x.2.1 ≠ 0) then 2 else if x.2.1 < 0 ∨ 4294967294 < x.2.1 ∨ x.2.2 < 0 ∨ 4294967294 < x.2.2 then 3 else 0 := rfl
  simp only [cntI] at CC
  generalize errI m x = er at *
  generalize hasI m x.1 = h at *
  obtain ⟨nn, is⟩ := h
  obtain ⟨op, A, B⟩ := x
  dsimp only at *
  have EE := hid E1
  clear E1
  cases m
  all_goals
    simp only [kindV, kindC] at CC ⊢
    cases is with
    | false =>
      simp only [Bool.false_eq_true, if_false] at CC
      go_enter Tryd.func59, Tryd.ntmps59
      go_wp2_with fail
      refine (CC.out _).mono ?_
      rintro e w1 ⟨rfl, hO⟩
      have O := hid hO
      clear hO
      go_wp2_with fail
      go_ret
      exact ⟨ret_int (by rw [EE.out]; rfl), (((Only.refl [] w).alloc _).alloc _).trans O.out⟩
    | true =>
      simp only [if_true] at CC
      rcases HN with rfl | rfl | rfl
      · go_enter Tryd.func59, Tryd.ntmps59
        go_wp2_with fail
        refine (CC.out _).mono ?_
        rintro e w1 ⟨rfl, hO⟩
        have O := hid ((((Only.refl [] w).alloc _).alloc _).trans hO)
        have c0 := hO.cell (p := ⟨w.heap.size + 1, 1, none⟩) (v := .int .i64 A) (by simp) (by simp)
        have c1 := hO.cell (p := ⟨w.heap.size + 1, 2, none⟩) (v := .int .i64 B) (by simp) (by simp)
        clear hO
        go_wp2_with fail
        generalize hW : w1.alloc _ = W
        have d0 : W.cell? ⟨w1.heap.size, 0, none⟩ = some (.int .i64 A) := by rw [← hW]; simp
        have d1 : W.cell? ⟨w1.heap.size, 1, none⟩ = some (.int .i64 B) := by rw [← hW]; simp
        have OW := hid (show Only [] w W from hW ▸ O.out.alloc _)
        generalize w1.heap.size = D at *
        clear hW c0 c1 O
        go_loopg [26] 2 (fun g t wr => ∃ i : Nat, i + g = 2 ∧ t = .int .i64 i ∧ (1 ≤ i → A = 0) ∧ (2 ≤ i → B = 0) ∧ W = wr)
        case atStart => exact ⟨0, by omega, rfl, fun h => absurd h (by omega), fun h => absurd h (by omega), rfl⟩
        case round =>
          obtain ⟨i, hi, rfl, f0, f1, rfl⟩ := hrel
          have hi2 : i = 0 ∨ i = 1 ∨ i = 2 := by omega
          rcases hi2 with rfl | rfl | rfl
          · obtain rfl : gk = 2 := by omega
            clear hi f0 f1
            by_cases hA : A = 0
            · go_wp2_with fail
              go_roundg 1
              case measure => omega
              case rel => exact ⟨1, by omega, rfl, fun h => by omega, fun h => by omega, rfl⟩
            · go_wp2_with fail
              go_ret
              exact ⟨ret_int (by rw [EE.out]; simp <;> omega), OW.out⟩
          · obtain rfl : gk = 1 := by omega
            have F0 := hid (f0 (by omega))
            clear hi f0 f1
            by_cases hA : B = 0
            · go_wp2_with fail
              go_roundg 0
              case measure => omega
              case rel => exact ⟨2, by omega, rfl, fun h => F0.out, fun h => by omega, rfl⟩
            · go_wp2_with fail
              go_ret
              exact ⟨ret_int (by rw [EE.out]; have := F0.out; simp <;> omega), OW.out⟩
          · obtain rfl : gk = 0 := by omega
            have F0 := hid (f0 (by omega))
            have F1 := hid (f1 (by omega))
            clear hi f0 f1
            go_wp2_with fail
            go_loopg [36] 0 (fun g t wr => ∃ i : Nat, i + g = 0 ∧ t = .int .i64 i ∧ W = wr)
            case atStart => exact ⟨0, by omega, rfl, rfl⟩
            case round =>
              obtain ⟨i, hi, rfl, rfl⟩ := hrel
              have hi2 : i = 0 := by omega
              rcases hi2 with rfl
              · obtain rfl : gk = 0 := by omega
                clear hi
                go_wp2_with fail
                go_ret
                exact ⟨ret_int (by rw [EE.out]; have := F0.out; have := F1.out; simp <;> omega), OW.out⟩
      · go_enter Tryd.func59, Tryd.ntmps59
        go_wp2_with fail
        refine (CC.out _).mono ?_
        rintro e w1 ⟨rfl, hO⟩
        have O := hid ((((Only.refl [] w).alloc _).alloc _).trans hO)
        have c0 := hO.cell (p := ⟨w.heap.size + 1, 1, none⟩) (v := .int .i64 A) (by simp) (by simp)
        have c1 := hO.cell (p := ⟨w.heap.size + 1, 2, none⟩) (v := .int .i64 B) (by simp) (by simp)
        clear hO
        go_wp2_with fail
        generalize hW : w1.alloc _ = W
        have d0 : W.cell? ⟨w1.heap.size, 0, none⟩ = some (.int .i64 A) := by rw [← hW]; simp
        have d1 : W.cell? ⟨w1.heap.size, 1, none⟩ = some (.int .i64 B) := by rw [← hW]; simp
        have OW := hid (show Only [] w W from hW ▸ O.out.alloc _)
        generalize w1.heap.size = D at *
        clear hW c0 c1 O
        go_loopg [26] 1 (fun g t wr => ∃ i : Nat, i + g = 1 ∧ t = .int .i64 i ∧ (1 ≤ i → B = 0) ∧ W = wr)
        case atStart => exact ⟨0, by omega, rfl, fun h => absurd h (by omega), rfl⟩
        case round =>
          obtain ⟨i, hi, rfl, f0, rfl⟩ := hrel
          have hi2 : i = 0 ∨ i = 1 := by omega
          rcases hi2 with rfl | rfl
          · obtain rfl : gk = 1 := by omega
            clear hi f0
            by_cases hA : B = 0
            · go_wp2_with fail
              go_roundg 0
              case measure => omega
              case rel => exact ⟨1, by omega, rfl, fun h => by omega, rfl⟩
            · go_wp2_with fail
              go_ret
              exact ⟨ret_int (by rw [EE.out]; simp <;> omega), OW.out⟩
          · obtain rfl : gk = 0 := by omega
            have F0 := hid (f0 (by omega))
            clear hi f0
            go_wp2_with fail
            go_loopg [36] 1 (fun g t wr => ∃ i : Nat, i + g = 1 ∧ t = .int .i64 i ∧ (1 ≤ i → 0 ≤ A ∧ A ≤ 4294967294) ∧ W = wr)
            case atStart => exact ⟨0, by omega, rfl, fun h => absurd h (by omega), rfl⟩
            case round =>
              obtain ⟨i, hi, rfl, f0, rfl⟩ := hrel
              have hi2 : i = 0 ∨ i = 1 := by omega
              rcases hi2 with rfl | rfl
              · obtain rfl : gk = 1 := by omega
                clear hi f0
                by_cases hA : A < 0
                · go_wp2_with fail
                  go_ret
                  exact ⟨ret_int (by rw [EE.out]; have := F0.out; simp <;> omega), OW.out⟩
                · have hA' : 0 ≤ A := by omega
                  by_cases hB : (4294967294 : Int) < A
                  · go_wp2_with fail
                    go_ret
                    exact ⟨ret_int (by rw [EE.out]; have := F0.out; simp <;> omega), OW.out⟩
                  · go_wp2_with fail
                    go_roundg 0
                    case measure => omega
                    case rel => exact ⟨1, by omega, rfl, fun h => by omega, rfl⟩
              · obtain rfl : gk = 0 := by omega
                have f0 := f0 (by omega)
                clear hi
                go_wp2_with fail
                go_ret
                exact ⟨ret_int (by rw [EE.out]; have := F0.out; simp <;> omega), OW.out⟩
      · go_enter Tryd.func59, Tryd.ntmps59
        go_wp2_with fail
        refine (CC.out _).mono ?_
        rintro e w1 ⟨rfl, hO⟩
        have O := hid ((((Only.refl [] w).alloc _).alloc _).trans hO)
        have c0 := hO.cell (p := ⟨w.heap.size + 1, 1, none⟩) (v := .int .i64 A) (by simp) (by simp)
        have c1 := hO.cell (p := ⟨w.heap.size + 1, 2, none⟩) (v := .int .i64 B) (by simp) (by simp)
        clear hO
        go_wp2_with fail
        generalize hW : w1.alloc _ = W
        have d0 : W.cell? ⟨w1.heap.size, 0, none⟩ = some (.int .i64 A) := by rw [← hW]; simp
        have d1 : W.cell? ⟨w1.heap.size, 1, none⟩ = some (.int .i64 B) := by rw [← hW]; simp
        have OW := hid (show Only [] w W from hW ▸ O.out.alloc _)
        generalize w1.heap.size = D at *
        clear hW c0 c1 O
        go_loopg [26] 0 (fun g t wr => ∃ i : Nat, i + g = 0 ∧ t = .int .i64 i ∧ W = wr)
        case atStart => exact ⟨0, by omega, rfl, rfl⟩
        case round =>
          obtain ⟨i, hi, rfl, rfl⟩ := hrel
          have hi2 : i = 0 := by omega
          rcases hi2 with rfl
          · obtain rfl : gk = 0 := by omega
            clear hi 
            go_wp2_with fail
            go_loopg [36] 2 (fun g t wr => ∃ i : Nat, i + g = 2 ∧ t = .int .i64 i ∧ (1 ≤ i → 0 ≤ A ∧ A ≤ 4294967294) ∧ (2 ≤ i → 0 ≤ B ∧ B ≤ 4294967294) ∧ W = wr)
            case atStart => exact ⟨0, by omega, rfl, fun h => absurd h (by omega), fun h => absurd h (by omega), rfl⟩
            case round =>
              obtain ⟨i, hi, rfl, f0, f1, rfl⟩ := hrel
              have hi2 : i = 0 ∨ i = 1 ∨ i = 2 := by omega
              rcases hi2 with rfl | rfl | rfl
              · obtain rfl : gk = 2 := by omega
                clear hi f0 f1
                by_cases hA : A < 0
                · go_wp2_with fail
                  go_ret
                  exact ⟨ret_int (by rw [EE.out]; simp <;> omega), OW.out⟩
                · have hA' : 0 ≤ A := by omega
                  by_cases hB : (4294967294 : Int) < A
                  · go_wp2_with fail
                    go_ret
                    exact ⟨ret_int (by rw [EE.out]; simp <;> omega), OW.out⟩
                  · go_wp2_with fail
                    go_roundg 1
                    case measure => omega
                    case rel => exact ⟨1, by omega, rfl, fun h => by omega, fun h => by omega, rfl⟩
              · obtain rfl : gk = 1 := by omega
                have f0 := f0 (by omega)
                clear hi f1
                by_cases hA : B < 0
                · go_wp2_with fail
                  go_ret
                  exact ⟨ret_int (by rw [EE.out]; simp <;> omega), OW.out⟩
                · have hA' : 0 ≤ B := by omega
                  by_cases hB : (4294967294 : Int) < B
                  · go_wp2_with fail
                    go_ret
                    exact ⟨ret_int (by rw [EE.out]; simp <;> omega), OW.out⟩
                  · go_wp2_with fail
                    go_roundg 0
                    case measure => omega
                    case rel => exact ⟨2, by omega, rfl, fun h => by omega, fun h => by omega, rfl⟩
              · obtain rfl : gk = 0 := by omega
                have f0 := f0 (by omega)
                have f1 := f1 (by omega)
                clear hi
                go_wp2_with fail
                go_ret
                exact ⟨ret_int (by rw [EE.out]; simp <;> omega), OW.out⟩
end Go.Proofs.YtdkmeldcpamnnaaDoor
