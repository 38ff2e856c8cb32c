/- PlaceNames: the examples; tables of arrays in memory, and a closure that is given functions. -/
import Derived.Test.YtnpfjmblgjojcaaDoorPlO
namespace Go.Proofs.YtnpfjmblgjojcaaDoor
open Go.RowKit
set_option linter.unusedVariables false
set_option linter.unusedSimpArgs false

/-- A row of numbers in memory. -/
def Tab (w : World) (c : Nat) (l : List Int) : Prop := ∀ i, i < l.length → w.cell? ⟨c, i, none⟩ = some (.int .i64 (l.getD i 0))
theorem Tab.only {w w' : World} {c : Nat} {l : List Int} (h : Tab w c l) (k : Only [] w w') : Tab w' c l := fun i hi => k.cell (h i hi) (by simp)
theorem Tab.made (w : World) (t : TypeId) (l : List Int) : Tab (w.alloc (.cells (l.map (Value.int .i64)).toArray t)) w.heap.size l := by
  intro i hi
  rw [World.cell?_alloc_new]
  simp [hi]
def lat : List Int := [0, 0, 0, 3, 1, 1, 6, 2, 1, 13, 3, 2]
def latN : List Int := [5, 0, 4, 4, 1, 4, 0, 4, -1, 0, 5, 3, 4, 4, -1, 5, 5, 4, -1, -1]
set_option maxHeartbeats 400000 in
theorem step11_any (B : Int → Int × Bool × Int) (f : Nat) (k n : Int) (s : Bool) (w : World) (hV : PlV w) (ef : ∀ args w, (callFunc f args).run Tryd.prog w = .ok (.enter f args) w) (hB : DoesI f B) (k0 : 0 ≤ k) (k1 : k ≤ 16) (h : B k = (n, s, 0)) :
    Calls Tryd.prog 11 #[.func (.func f) #[] #[], .int .i64 k, .int .i64 n, .bool s] w fun e w' => e = .returned (.bool true) ∧ Only [] w w' := by
  have V := hid hV
  clear hV
  have C := hid (hB k w (by omega) (by omega) V.out)
  rw [h] at C
  clear h hB
  cases s
  all_goals
    go_enter Tryd.func11, Tryd.ntmps11
    go_wp2_with fail
    refine C.out.mono ?_
    rintro e w1 ⟨rfl, hO⟩
    go_wp2_with fail
    go_ret
    exact ⟨rfl, hO⟩

set_option maxRecDepth 100000 in
set_option maxHeartbeats 8000000 in
theorem pnames_any (w : World) (hV : PlV w) : Calls Tryd.prog 3 #[] w fun e w' => e = .returned (.bool true) ∧ Only [] w w' := by
  have V := hid hV
  have V0 := V
  clear hV
  have T0 := hid (Tab.made w 22 lat)
  have AL := hid (fun w V => alive_any w V)
  have A0 := hid (fun w V => at11_any 0 w (by omega) (by omega) V)
  rw [show atI 0 = (0, 0, 0) from by decide] at A0
  have B0 := hid (fun w => block11_any 0 0 w (by omega) (by omega) (by omega) (by omega))
  rw [show blockI 0 0 = (0, 0) from by decide] at B0
  have A3 := hid (fun w V => at11_any 3 w (by omega) (by omega) V)
  rw [show atI 3 = (1, 1, 0) from by decide] at A3
  have B3 := hid (fun w => block11_any 1 1 w (by omega) (by omega) (by omega) (by omega))
  rw [show blockI 1 1 = (3, 0) from by decide] at B3
  have A6 := hid (fun w V => at11_any 6 w (by omega) (by omega) V)
  rw [show atI 6 = (2, 1, 0) from by decide] at A6
  have B6 := hid (fun w => block11_any 2 1 w (by omega) (by omega) (by omega) (by omega))
  rw [show blockI 2 1 = (6, 0) from by decide] at B6
  have A13 := hid (fun w V => at11_any 13 w (by omega) (by omega) V)
  rw [show atI 13 = (3, 2, 0) from by decide] at A13
  have B13 := hid (fun w => block11_any 3 2 w (by omega) (by omega) (by omega) (by omega))
  rw [show blockI 3 2 = (13, 0) from by decide] at B13
  have A16 := hid (fun w V => at11_any 16 w (by omega) (by omega) V)
  rw [show atI 16 = (0, 0, 3) from by decide] at A16
  have B4 := hid (fun w => block11_any 4 0 w (by omega) (by omega) (by omega) (by omega))
  rw [show blockI 4 0 = (0, 3) from by decide] at B4
  have N0 := hid (fun w => near11_any 5 0 4 w (by omega) (by omega) (by omega) (by omega) (by omega) (by omega))
  rw [show nearI 5 0 4 = (4, 1, 0) from by decide] at N0
  have N1 := hid (fun w => near11_any 4 0 4 w (by omega) (by omega) (by omega) (by omega) (by omega) (by omega))
  rw [show nearI 4 0 4 = ((-1), 0, 0) from by decide] at N1
  have N2 := hid (fun w => near11_any 5 3 4 w (by omega) (by omega) (by omega) (by omega) (by omega) (by omega))
  rw [show nearI 5 3 4 = (4, (-1), 0) from by decide] at N2
  have N3 := hid (fun w => near11_any 5 5 4 w (by omega) (by omega) (by omega) (by omega) (by omega) (by omega))
  rw [show nearI 5 5 4 = ((-1), (-1), 0) from by decide] at N3
  have N4 := hid (fun w => near11_any 2 3 4 w (by omega) (by omega) (by omega) (by omega) (by omega) (by omega))
  rw [show nearI 2 3 4 = (0, 0, 3) from by decide] at N4
  have S0 := hid (fun w V => step11_any leftI _ 1 0 true w V left_enters left_does (by omega) (by omega) (by decide))
  have S1 := hid (fun w V => step11_any leftI _ 0 5 false w V left_enters left_does (by omega) (by omega) (by decide))
  have S2 := hid (fun w V => step11_any leftI _ 6 3 true w V left_enters left_does (by omega) (by omega) (by decide))
  have S3 := hid (fun w V => step11_any aboveI _ 8 2 true w V above_enters above_does (by omega) (by omega) (by decide))
  have S4 := hid (fun w V => step11_any aboveI _ 5 15 false w V above_enters above_does (by omega) (by omega) (by decide))
  have S5 := hid (fun w V => step11_any chLeftI _ 1 0 true w V chleft_enters chleft_does (by omega) (by omega) (by decide))
  have S6 := hid (fun w V => step11_any chLeftI _ 2 3 false w V chleft_enters chleft_does (by omega) (by omega) (by decide))
  have S7 := hid (fun w V => step11_any chAboveI _ 1 3 false w V chabove_enters chabove_does (by omega) (by omega) (by decide))
  have S8 := hid (fun w V => step11_any chAboveI _ 3 1 true w V chabove_enters chabove_does (by omega) (by omega) (by decide))
  go_enter Tryd.func3, Tryd.ntmps3
  go_wp2_with fail
  have O0 := hid ((Only.refl [] w).alloc (.cells (lat.map (Value.int .i64)).toArray 22))
  obtain ⟨c, hc⟩ : ∃ c, c = w.heap.size := ⟨_, rfl⟩
  have CE := hid hc
  rw [← hc]
  rw [← hc] at T0
  clear hc
  go_loopg [28] 4 (fun g t wr => ∃ j : Nat, j + g = 4 ∧ t = .int .i64 j ∧ Tab wr c lat ∧ Only [] w wr)
  case atStart => exact ⟨0, by omega, rfl, T0.out, O0.out⟩
  case round =>
    obtain ⟨j, hj, rfl, hT, hO⟩ := hrel
    have T := hid hT
    have O := hid hO
    have V := hid (V.out.only0 hO)
    clear hT hO T0 O0
    by_cases hg : gk = 0
    · obtain rfl : j = 4 := by omega
      clear hj hg T
      go_wp2_with fail
      refine (A16.out _ V.out).mono ?_
      rintro e w1 ⟨rfl, hO⟩
      have V := hid (V.out.only0 hO)
      have O1 := hid (O.out.trans hO)
      clear hO
      go_wp2_with fail
      refine (B4.out _).mono ?_
      rintro e w2 ⟨rfl, hO⟩
      have V := hid (V.out.only0 hO)
      have O2 := hid (O1.out.trans hO)
      clear hO
      go_wp2_with fail
      refine (S0.out _ V.out).mono ?_
      rintro e w3 ⟨rfl, hO⟩
      have V := hid (V.out.only0 hO)
      have O3 := hid (O2.out.trans hO)
      clear hO
      go_wp2_with fail
      refine (S1.out _ V.out).mono ?_
      rintro e w4 ⟨rfl, hO⟩
      have V := hid (V.out.only0 hO)
      have O4 := hid (O3.out.trans hO)
      clear hO
      go_wp2_with fail
      refine (S2.out _ V.out).mono ?_
      rintro e w5 ⟨rfl, hO⟩
      have V := hid (V.out.only0 hO)
      have O5 := hid (O4.out.trans hO)
      clear hO
      go_wp2_with fail
      refine (S3.out _ V.out).mono ?_
      rintro e w6 ⟨rfl, hO⟩
      have V := hid (V.out.only0 hO)
      have O6 := hid (O5.out.trans hO)
      clear hO
      go_wp2_with fail
      refine (S4.out _ V.out).mono ?_
      rintro e w7 ⟨rfl, hO⟩
      have V := hid (V.out.only0 hO)
      have O7 := hid (O6.out.trans hO)
      clear hO
      go_wp2_with fail
      refine (S5.out _ V.out).mono ?_
      rintro e w8 ⟨rfl, hO⟩
      have V := hid (V.out.only0 hO)
      have O8 := hid (O7.out.trans hO)
      clear hO
      go_wp2_with fail
      refine (S6.out _ V.out).mono ?_
      rintro e w9 ⟨rfl, hO⟩
      have V := hid (V.out.only0 hO)
      have O9 := hid (O8.out.trans hO)
      clear hO
      go_wp2_with fail
      refine (S7.out _ V.out).mono ?_
      rintro e w10 ⟨rfl, hO⟩
      have V := hid (V.out.only0 hO)
      have O10 := hid (O9.out.trans hO)
      clear hO
      go_wp2_with fail
      refine (S8.out _ V.out).mono ?_
      rintro e w11 ⟨rfl, hO⟩
      have V := hid (V.out.only0 hO)
      have O11 := hid (O10.out.trans hO)
      clear hO
      go_wp2_with fail
      have T1 := hid (Tab.made w11 32 latN)
      have O12 := hid (O11.out.alloc (.cells (latN.map (Value.int .i64)).toArray 32))
      obtain ⟨d, hd⟩ : ∃ d, d = w11.heap.size := ⟨_, rfl⟩
      rw [← hd]
      rw [← hd] at T1
      clear hd O O1 O2 O3 O4 O5 O6 O7 O8 O9 O10 O11
      go_loopg [134] 4 (fun g t wr => ∃ j : Nat, j + g = 4 ∧ t = .int .i64 j ∧ Tab wr d latN ∧ Only [] w wr)
      case atStart => exact ⟨0, by omega, rfl, T1.out, O12.out⟩
      case round =>
        obtain ⟨j, hj, rfl, hT, hO⟩ := hrel
        have T := hid hT
        have O := hid hO
        have V := hid (V0.out.only0 hO)
        clear hT hO T1 O12
        by_cases hg : gk = 0
        · obtain rfl : j = 4 := by omega
          clear hj hg T
          go_wp2_with fail
          refine (N4.out _).mono ?_
          rintro e x1 ⟨rfl, hO⟩
          have V := hid (V.out.only0 hO)
          have O1 := hid (O.out.trans hO)
          clear hO
          go_wp2_with fail
          refine (AL.out _ V.out).mono ?_
          rintro e x2 ⟨rfl, hO⟩
          have V := hid (V.out.only0 hO)
          go_wp2_with fail
          go_ret
          exact ⟨rfl, O1.out.trans hO⟩
        · obtain ⟨g, rfl⟩ : ∃ g, gk = g + 1 := ⟨gk - 1, by omega⟩
          have JG := hid (show j + 1 + g = 4 by omega)
          have cs : j = 0 ∨ j = 1 ∨ j = 2 ∨ j = 3 := by omega
          clear hj hg
          rcases cs with rfl | rfl | rfl | rfl
          ·
            have a0 : wr.cell? ⟨d, 0, none⟩ = some (.int .i64 5) := T.out 0 (by decide)
            have a1 : wr.cell? ⟨d, 1, none⟩ = some (.int .i64 0) := T.out 1 (by decide)
            have a2 : wr.cell? ⟨d, 2, none⟩ = some (.int .i64 4) := T.out 2 (by decide)
            have a3 : wr.cell? ⟨d, 3, none⟩ = some (.int .i64 4) := T.out 3 (by decide)
            have a4 : wr.cell? ⟨d, 4, none⟩ = some (.int .i64 1) := T.out 4 (by decide)
            go_wp2_with fail
            refine (N0.out _).mono ?_
            rintro e x1 ⟨rfl, hO⟩
            have V := hid ((V.out.alloc _).only0 hO)
            have y0 := hO.cell (p := ⟨wr.heap.size, 0, none⟩) (v := .int .i64 5) (by simp) (by simp)
            have y1 := hO.cell (p := ⟨wr.heap.size, 1, none⟩) (v := .int .i64 0) (by simp) (by simp)
            have y2 := hO.cell (p := ⟨wr.heap.size, 2, none⟩) (v := .int .i64 4) (by simp) (by simp)
            have y3 := hO.cell (p := ⟨wr.heap.size, 3, none⟩) (v := .int .i64 4) (by simp) (by simp)
            have y4 := hO.cell (p := ⟨wr.heap.size, 4, none⟩) (v := .int .i64 1) (by simp) (by simp)
            have OW := hid (((Only.refl [] wr).alloc _).trans hO)
            clear hO
            go_wp2_with fail
            go_roundg g
            case measure => omega
            case rel => exact ⟨1, JG.out, by go_num, T.out.only OW.out, O.out.trans OW.out⟩
          ·
            have a0 : wr.cell? ⟨d, 5, none⟩ = some (.int .i64 4) := T.out 5 (by decide)
            have a1 : wr.cell? ⟨d, 6, none⟩ = some (.int .i64 0) := T.out 6 (by decide)
            have a2 : wr.cell? ⟨d, 7, none⟩ = some (.int .i64 4) := T.out 7 (by decide)
            have a3 : wr.cell? ⟨d, 8, none⟩ = some (.int .i64 (-1)) := T.out 8 (by decide)
            have a4 : wr.cell? ⟨d, 9, none⟩ = some (.int .i64 0) := T.out 9 (by decide)
            go_wp2_with fail
            refine (N1.out _).mono ?_
            rintro e x1 ⟨rfl, hO⟩
            have V := hid ((V.out.alloc _).only0 hO)
            have y0 := hO.cell (p := ⟨wr.heap.size, 0, none⟩) (v := .int .i64 4) (by simp) (by simp)
            have y1 := hO.cell (p := ⟨wr.heap.size, 1, none⟩) (v := .int .i64 0) (by simp) (by simp)
            have y2 := hO.cell (p := ⟨wr.heap.size, 2, none⟩) (v := .int .i64 4) (by simp) (by simp)
            have y3 := hO.cell (p := ⟨wr.heap.size, 3, none⟩) (v := .int .i64 (-1)) (by simp) (by simp)
            have y4 := hO.cell (p := ⟨wr.heap.size, 4, none⟩) (v := .int .i64 0) (by simp) (by simp)
            have OW := hid (((Only.refl [] wr).alloc _).trans hO)
            clear hO
            go_wp2_with fail
            go_roundg g
            case measure => omega
            case rel => exact ⟨2, JG.out, by go_num, T.out.only OW.out, O.out.trans OW.out⟩
          ·
            have a0 : wr.cell? ⟨d, 10, none⟩ = some (.int .i64 5) := T.out 10 (by decide)
            have a1 : wr.cell? ⟨d, 11, none⟩ = some (.int .i64 3) := T.out 11 (by decide)
            have a2 : wr.cell? ⟨d, 12, none⟩ = some (.int .i64 4) := T.out 12 (by decide)
            have a3 : wr.cell? ⟨d, 13, none⟩ = some (.int .i64 4) := T.out 13 (by decide)
            have a4 : wr.cell? ⟨d, 14, none⟩ = some (.int .i64 (-1)) := T.out 14 (by decide)
            go_wp2_with fail
            refine (N2.out _).mono ?_
            rintro e x1 ⟨rfl, hO⟩
            have V := hid ((V.out.alloc _).only0 hO)
            have y0 := hO.cell (p := ⟨wr.heap.size, 0, none⟩) (v := .int .i64 5) (by simp) (by simp)
            have y1 := hO.cell (p := ⟨wr.heap.size, 1, none⟩) (v := .int .i64 3) (by simp) (by simp)
            have y2 := hO.cell (p := ⟨wr.heap.size, 2, none⟩) (v := .int .i64 4) (by simp) (by simp)
            have y3 := hO.cell (p := ⟨wr.heap.size, 3, none⟩) (v := .int .i64 4) (by simp) (by simp)
            have y4 := hO.cell (p := ⟨wr.heap.size, 4, none⟩) (v := .int .i64 (-1)) (by simp) (by simp)
            have OW := hid (((Only.refl [] wr).alloc _).trans hO)
            clear hO
            go_wp2_with fail
            go_roundg g
            case measure => omega
            case rel => exact ⟨3, JG.out, by go_num, T.out.only OW.out, O.out.trans OW.out⟩
          ·
            have a0 : wr.cell? ⟨d, 15, none⟩ = some (.int .i64 5) := T.out 15 (by decide)
            have a1 : wr.cell? ⟨d, 16, none⟩ = some (.int .i64 5) := T.out 16 (by decide)
            have a2 : wr.cell? ⟨d, 17, none⟩ = some (.int .i64 4) := T.out 17 (by decide)
            have a3 : wr.cell? ⟨d, 18, none⟩ = some (.int .i64 (-1)) := T.out 18 (by decide)
            have a4 : wr.cell? ⟨d, 19, none⟩ = some (.int .i64 (-1)) := T.out 19 (by decide)
            go_wp2_with fail
            refine (N3.out _).mono ?_
            rintro e x1 ⟨rfl, hO⟩
            have V := hid ((V.out.alloc _).only0 hO)
            have y0 := hO.cell (p := ⟨wr.heap.size, 0, none⟩) (v := .int .i64 5) (by simp) (by simp)
            have y1 := hO.cell (p := ⟨wr.heap.size, 1, none⟩) (v := .int .i64 5) (by simp) (by simp)
            have y2 := hO.cell (p := ⟨wr.heap.size, 2, none⟩) (v := .int .i64 4) (by simp) (by simp)
            have y3 := hO.cell (p := ⟨wr.heap.size, 3, none⟩) (v := .int .i64 (-1)) (by simp) (by simp)
            have y4 := hO.cell (p := ⟨wr.heap.size, 4, none⟩) (v := .int .i64 (-1)) (by simp) (by simp)
            have OW := hid (((Only.refl [] wr).alloc _).trans hO)
            clear hO
            go_wp2_with fail
            go_roundg g
            case measure => omega
            case rel => exact ⟨4, JG.out, by go_num, T.out.only OW.out, O.out.trans OW.out⟩
    · obtain ⟨g, rfl⟩ : ∃ g, gk = g + 1 := ⟨gk - 1, by omega⟩
      have JG := hid (show j + 1 + g = 4 by omega)
      have cs : j = 0 ∨ j = 1 ∨ j = 2 ∨ j = 3 := by omega
      clear hj hg
      rcases cs with rfl | rfl | rfl | rfl
      ·
        have a0 : wr.cell? ⟨c, 0, none⟩ = some (.int .i64 0) := T.out 0 (by decide)
        have a1 : wr.cell? ⟨c, 1, none⟩ = some (.int .i64 0) := T.out 1 (by decide)
        have a2 : wr.cell? ⟨c, 2, none⟩ = some (.int .i64 0) := T.out 2 (by decide)
        go_wp2_with fail
        refine (A0.out _ (V.out.alloc _)).mono ?_
        rintro e x1 ⟨rfl, hO⟩
        have V := hid ((V.out.alloc _).only0 hO)
        have y0 := hO.cell (p := ⟨wr.heap.size, 0, none⟩) (v := .int .i64 0) (by simp) (by simp)
        have y1 := hO.cell (p := ⟨wr.heap.size, 1, none⟩) (v := .int .i64 0) (by simp) (by simp)
        have y2 := hO.cell (p := ⟨wr.heap.size, 2, none⟩) (v := .int .i64 0) (by simp) (by simp)
        have OW := hid (((Only.refl [] wr).alloc _).trans hO)
        clear hO
        go_wp2_with fail
        refine (B0.out _).mono ?_
        rintro e x2 ⟨rfl, hO⟩
        have V := hid (V.out.only0 hO)
        have z0 := hO.cell y0 (by simp)
        have z1 := hO.cell y1 (by simp)
        have z2 := hO.cell y2 (by simp)
        have OX := hid (OW.out.trans hO)
        clear hO y0 y1 y2
        go_wp2_with fail
        go_roundg g
        case measure => omega
        case rel => exact ⟨1, JG.out, by go_num, T.out.only OX.out, O.out.trans OX.out⟩
      ·
        have a0 : wr.cell? ⟨c, 3, none⟩ = some (.int .i64 3) := T.out 3 (by decide)
        have a1 : wr.cell? ⟨c, 4, none⟩ = some (.int .i64 1) := T.out 4 (by decide)
        have a2 : wr.cell? ⟨c, 5, none⟩ = some (.int .i64 1) := T.out 5 (by decide)
        go_wp2_with fail
        refine (A3.out _ (V.out.alloc _)).mono ?_
        rintro e x1 ⟨rfl, hO⟩
        have V := hid ((V.out.alloc _).only0 hO)
        have y0 := hO.cell (p := ⟨wr.heap.size, 0, none⟩) (v := .int .i64 3) (by simp) (by simp)
        have y1 := hO.cell (p := ⟨wr.heap.size, 1, none⟩) (v := .int .i64 1) (by simp) (by simp)
        have y2 := hO.cell (p := ⟨wr.heap.size, 2, none⟩) (v := .int .i64 1) (by simp) (by simp)
        have OW := hid (((Only.refl [] wr).alloc _).trans hO)
        clear hO
        go_wp2_with fail
        refine (B3.out _).mono ?_
        rintro e x2 ⟨rfl, hO⟩
        have V := hid (V.out.only0 hO)
        have z0 := hO.cell y0 (by simp)
        have z1 := hO.cell y1 (by simp)
        have z2 := hO.cell y2 (by simp)
        have OX := hid (OW.out.trans hO)
        clear hO y0 y1 y2
        go_wp2_with fail
        go_roundg g
        case measure => omega
        case rel => exact ⟨2, JG.out, by go_num, T.out.only OX.out, O.out.trans OX.out⟩
      ·
        have a0 : wr.cell? ⟨c, 6, none⟩ = some (.int .i64 6) := T.out 6 (by decide)
        have a1 : wr.cell? ⟨c, 7, none⟩ = some (.int .i64 2) := T.out 7 (by decide)
        have a2 : wr.cell? ⟨c, 8, none⟩ = some (.int .i64 1) := T.out 8 (by decide)
        go_wp2_with fail
        refine (A6.out _ (V.out.alloc _)).mono ?_
        rintro e x1 ⟨rfl, hO⟩
        have V := hid ((V.out.alloc _).only0 hO)
        have y0 := hO.cell (p := ⟨wr.heap.size, 0, none⟩) (v := .int .i64 6) (by simp) (by simp)
        have y1 := hO.cell (p := ⟨wr.heap.size, 1, none⟩) (v := .int .i64 2) (by simp) (by simp)
        have y2 := hO.cell (p := ⟨wr.heap.size, 2, none⟩) (v := .int .i64 1) (by simp) (by simp)
        have OW := hid (((Only.refl [] wr).alloc _).trans hO)
        clear hO
        go_wp2_with fail
        refine (B6.out _).mono ?_
        rintro e x2 ⟨rfl, hO⟩
        have V := hid (V.out.only0 hO)
        have z0 := hO.cell y0 (by simp)
        have z1 := hO.cell y1 (by simp)
        have z2 := hO.cell y2 (by simp)
        have OX := hid (OW.out.trans hO)
        clear hO y0 y1 y2
        go_wp2_with fail
        go_roundg g
        case measure => omega
        case rel => exact ⟨3, JG.out, by go_num, T.out.only OX.out, O.out.trans OX.out⟩
      ·
        have a0 : wr.cell? ⟨c, 9, none⟩ = some (.int .i64 13) := T.out 9 (by decide)
        have a1 : wr.cell? ⟨c, 10, none⟩ = some (.int .i64 3) := T.out 10 (by decide)
        have a2 : wr.cell? ⟨c, 11, none⟩ = some (.int .i64 2) := T.out 11 (by decide)
        go_wp2_with fail
        refine (A13.out _ (V.out.alloc _)).mono ?_
        rintro e x1 ⟨rfl, hO⟩
        have V := hid ((V.out.alloc _).only0 hO)
        have y0 := hO.cell (p := ⟨wr.heap.size, 0, none⟩) (v := .int .i64 13) (by simp) (by simp)
        have y1 := hO.cell (p := ⟨wr.heap.size, 1, none⟩) (v := .int .i64 3) (by simp) (by simp)
        have y2 := hO.cell (p := ⟨wr.heap.size, 2, none⟩) (v := .int .i64 2) (by simp) (by simp)
        have OW := hid (((Only.refl [] wr).alloc _).trans hO)
        clear hO
        go_wp2_with fail
        refine (B13.out _).mono ?_
        rintro e x2 ⟨rfl, hO⟩
        have V := hid (V.out.only0 hO)
        have z0 := hO.cell y0 (by simp)
        have z1 := hO.cell y1 (by simp)
        have z2 := hO.cell y2 (by simp)
        have OX := hid (OW.out.trans hO)
        clear hO y0 y1 y2
        go_wp2_with fail
        go_roundg g
        case measure => omega
        case rel => exact ⟨4, JG.out, by go_num, T.out.only OX.out, O.out.trans OX.out⟩
end Go.Proofs.YtnpfjmblgjojcaaDoor
