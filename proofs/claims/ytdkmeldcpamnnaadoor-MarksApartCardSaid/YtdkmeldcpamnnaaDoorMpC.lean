/- The program's check of a list; CheckMods, CheckMarks. Ahead of it: The program's check. -/
import Derived.Test.YtdkmeldcpamnnaaDoorMpA
import Derived.Deep.DeepCutAuto
import Derived.Deep.LoopGhost
namespace Go.Proofs.YtdkmeldcpamnnaaDoor
open Go.RowKit
set_option linter.unusedVariables false

set_option maxRecDepth 100000 in
set_option maxHeartbeats 8000000 in
theorem checkcmd_any (m : Bool) (x : Int × Int × Int) (hx : OkM x) (w : World) : Calls Tryd.prog 59 #[kindV m, .agg #[.int .u8 x.1, .int .i64 x.2.1, .int .i64 x.2.2]] w fun e w' => e = .returned (.int .i64 (errI m x)) ∧ Only [] w w' := by
  obtain ⟨⟨o0, o1⟩, ⟨p0, p1⟩, ⟨q0, q1⟩⟩ := hx
  have HN := hasI_n (m := m) (op := x.1)
  have CC := hid (fun w => count_any m x.1 o0 w)
  have E1 : errI m x = if (hasI m x.1).2 = false then 9 else if ((hasI m x.1).1 < 2 ∧ x.2.2 ≠ 0) ∨ ((hasI m x.1).1 < 1 ∧ x.2.1 ≠ 0) then 2 else if x.2.1 < 0 ∨ 4294967294 < x.2.1 ∨ x.2.2 < 0 ∨ 4294967294 < x.2.2 then 3 else 0 := rfl
  simp only [cntI] at CC
  generalize errI m x = er at *
  generalize hasI m x.1 = h at *
  obtain ⟨nn, is⟩ := h
  obtain ⟨op, A, B⟩ := x
  dsimp only at *
  have EE := hid E1
  clear E1
  cases m
  all_goals
    simp only [kindV, kindC] at CC ⊢
    cases is with
    | false =>
      simp only [Bool.false_eq_true, if_false] at CC
      go_enter Tryd.func59, Tryd.ntmps59
      go_wp2_with fail
      refine (CC.out _).mono ?_
      rintro e w1 ⟨rfl, hO⟩
      have O := hid hO
      clear hO
      go_wp2_with fail
      go_ret
      exact ⟨ret_int (by rw [EE.out]; rfl), (((Only.refl [] w).alloc _).alloc _).trans O.out⟩
    | true =>
      simp only [if_true] at CC
      rcases HN with rfl | rfl | rfl
      · go_enter Tryd.func59, Tryd.ntmps59
        go_wp2_with fail
        refine (CC.out _).mono ?_
        rintro e w1 ⟨rfl, hO⟩
        have O := hid ((((Only.refl [] w).alloc _).alloc _).trans hO)
        have c0 := hO.cell (p := ⟨w.heap.size + 1, 1, none⟩) (v := .int .i64 A) (by simp) (by simp)
        have c1 := hO.cell (p := ⟨w.heap.size + 1, 2, none⟩) (v := .int .i64 B) (by simp) (by simp)
        clear hO
        go_wp2_with fail
        generalize hW : w1.alloc _ = W
        have d0 : W.cell? ⟨w1.heap.size, 0, none⟩ = some (.int .i64 A) := by rw [← hW]; simp
        have d1 : W.cell? ⟨w1.heap.size, 1, none⟩ = some (.int .i64 B) := by rw [← hW]; simp
        have OW := hid (show Only [] w W from hW ▸ O.out.alloc _)
        generalize w1.heap.size = D at *
        clear hW c0 c1 O
        go_loopg [26] 2 (fun g t wr => ∃ i : Nat, i + g = 2 ∧ t = .int .i64 i ∧ (1 ≤ i → A = 0) ∧ (2 ≤ i → B = 0) ∧ W = wr)
        case atStart => exact ⟨0, by omega, rfl, fun h => absurd h (by omega), fun h => absurd h (by omega), rfl⟩
        case round =>
          obtain ⟨i, hi, rfl, f0, f1, rfl⟩ := hrel
          have hi2 : i = 0 ∨ i = 1 ∨ i = 2 := by omega
          rcases hi2 with rfl | rfl | rfl
          · obtain rfl : gk = 2 := by omega
            clear hi f0 f1
            by_cases hA : A = 0
            · go_wp2_with fail
              go_roundg 1
              case measure => omega
              case rel => exact ⟨1, by omega, rfl, fun h => by omega, fun h => by omega, rfl⟩
            · go_wp2_with fail
              go_ret
              exact ⟨ret_int (by rw [EE.out]; simp <;> omega), OW.out⟩
          · obtain rfl : gk = 1 := by omega
            have F0 := hid (f0 (by omega))
            clear hi f0 f1
            by_cases hA : B = 0
            · go_wp2_with fail
              go_roundg 0
              case measure => omega
              case rel => exact ⟨2, by omega, rfl, fun h => F0.out, fun h => by omega, rfl⟩
            · go_wp2_with fail
              go_ret
              exact ⟨ret_int (by rw [EE.out]; have := F0.out; simp <;> omega), OW.out⟩
          · obtain rfl : gk = 0 := by omega
            have F0 := hid (f0 (by omega))
            have F1 := hid (f1 (by omega))
            clear hi f0 f1
            go_wp2_with fail
            go_loopg [36] 0 (fun g t wr => ∃ i : Nat, i + g = 0 ∧ t = .int .i64 i ∧ W = wr)
            case atStart => exact ⟨0, by omega, rfl, rfl⟩
            case round =>
              obtain ⟨i, hi, rfl, rfl⟩ := hrel
              have hi2 : i = 0 := by omega
              rcases hi2 with rfl
              · obtain rfl : gk = 0 := by omega
                clear hi
                go_wp2_with fail
                go_ret
                exact ⟨ret_int (by rw [EE.out]; have := F0.out; have := F1.out; simp <;> omega), OW.out⟩
      · go_enter Tryd.func59, Tryd.ntmps59
        go_wp2_with fail
        refine (CC.out _).mono ?_
        rintro e w1 ⟨rfl, hO⟩
        have O := hid ((((Only.refl [] w).alloc _).alloc _).trans hO)
        have c0 := hO.cell (p := ⟨w.heap.size + 1, 1, none⟩) (v := .int .i64 A) (by simp) (by simp)
        have c1 := hO.cell (p := ⟨w.heap.size + 1, 2, none⟩) (v := .int .i64 B) (by simp) (by simp)
        clear hO
        go_wp2_with fail
        generalize hW : w1.alloc _ = W
        have d0 : W.cell? ⟨w1.heap.size, 0, none⟩ = some (.int .i64 A) := by rw [← hW]; simp
        have d1 : W.cell? ⟨w1.heap.size, 1, none⟩ = some (.int .i64 B) := by rw [← hW]; simp
        have OW := hid (show Only [] w W from hW ▸ O.out.alloc _)
        generalize w1.heap.size = D at *
        clear hW c0 c1 O
        go_loopg [26] 1 (fun g t wr => ∃ i : Nat, i + g = 1 ∧ t = .int .i64 i ∧ (1 ≤ i → B = 0) ∧ W = wr)
        case atStart => exact ⟨0, by omega, rfl, fun h => absurd h (by omega), rfl⟩
        case round =>
          obtain ⟨i, hi, rfl, f0, rfl⟩ := hrel
          have hi2 : i = 0 ∨ i = 1 := by omega
          rcases hi2 with rfl | rfl
          · obtain rfl : gk = 1 := by omega
            clear hi f0
            by_cases hA : B = 0
            · go_wp2_with fail
              go_roundg 0
              case measure => omega
              case rel => exact ⟨1, by omega, rfl, fun h => by omega, rfl⟩
            · go_wp2_with fail
              go_ret
              exact ⟨ret_int (by rw [EE.out]; simp <;> omega), OW.out⟩
          · obtain rfl : gk = 0 := by omega
            have F0 := hid (f0 (by omega))
            clear hi f0
            go_wp2_with fail
            go_loopg [36] 1 (fun g t wr => ∃ i : Nat, i + g = 1 ∧ t = .int .i64 i ∧ (1 ≤ i → 0 ≤ A ∧ A ≤ 4294967294) ∧ W = wr)
            case atStart => exact ⟨0, by omega, rfl, fun h => absurd h (by omega), rfl⟩
            case round =>
              obtain ⟨i, hi, rfl, f0, rfl⟩ := hrel
              have hi2 : i = 0 ∨ i = 1 := by omega
              rcases hi2 with rfl | rfl
              · obtain rfl : gk = 1 := by omega
                clear hi f0
                by_cases hA : A < 0
                · go_wp2_with fail
                  go_ret
                  exact ⟨ret_int (by rw [EE.out]; have := F0.out; simp <;> omega), OW.out⟩
                · have hA' : 0 ≤ A := by omega
                  by_cases hB : (4294967294 : Int) < A
                  · go_wp2_with fail
                    go_ret
                    exact ⟨ret_int (by rw [EE.out]; have := F0.out; simp <;> omega), OW.out⟩
                  · go_wp2_with fail
                    go_roundg 0
                    case measure => omega
                    case rel => exact ⟨1, by omega, rfl, fun h => by omega, rfl⟩
              · obtain rfl : gk = 0 := by omega
                have f0 := f0 (by omega)
                clear hi
                go_wp2_with fail
                go_ret
                exact ⟨ret_int (by rw [EE.out]; have := F0.out; simp <;> omega), OW.out⟩
      · go_enter Tryd.func59, Tryd.ntmps59
        go_wp2_with fail
        refine (CC.out _).mono ?_
        rintro e w1 ⟨rfl, hO⟩
        have O := hid ((((Only.refl [] w).alloc _).alloc _).trans hO)
        have c0 := hO.cell (p := ⟨w.heap.size + 1, 1, none⟩) (v := .int .i64 A) (by simp) (by simp)
        have c1 := hO.cell (p := ⟨w.heap.size + 1, 2, none⟩) (v := .int .i64 B) (by simp) (by simp)
        clear hO
        go_wp2_with fail
        generalize hW : w1.alloc _ = W
        have d0 : W.cell? ⟨w1.heap.size, 0, none⟩ = some (.int .i64 A) := by rw [← hW]; simp
        have d1 : W.cell? ⟨w1.heap.size, 1, none⟩ = some (.int .i64 B) := by rw [← hW]; simp
        have OW := hid (show Only [] w W from hW ▸ O.out.alloc _)
        generalize w1.heap.size = D at *
        clear hW c0 c1 O
        go_loopg [26] 0 (fun g t wr => ∃ i : Nat, i + g = 0 ∧ t = .int .i64 i ∧ W = wr)
        case atStart => exact ⟨0, by omega, rfl, rfl⟩
        case round =>
          obtain ⟨i, hi, rfl, rfl⟩ := hrel
          have hi2 : i = 0 := by omega
          rcases hi2 with rfl
          · obtain rfl : gk = 0 := by omega
            clear hi 
            go_wp2_with fail
            go_loopg [36] 2 (fun g t wr => ∃ i : Nat, i + g = 2 ∧ t = .int .i64 i ∧ (1 ≤ i → 0 ≤ A ∧ A ≤ 4294967294) ∧ (2 ≤ i → 0 ≤ B ∧ B ≤ 4294967294) ∧ W = wr)
            case atStart => exact ⟨0, by omega, rfl, fun h => absurd h (by omega), fun h => absurd h (by omega), rfl⟩
            case round =>
              obtain ⟨i, hi, rfl, f0, f1, rfl⟩ := hrel
              have hi2 : i = 0 ∨ i = 1 ∨ i = 2 := by omega
              rcases hi2 with rfl | rfl | rfl
              · obtain rfl : gk = 2 := by omega
                clear hi f0 f1
                by_cases hA : A < 0
                · go_wp2_with fail
                  go_ret
                  exact ⟨ret_int (by rw [EE.out]; simp <;> omega), OW.out⟩
                · have hA' : 0 ≤ A := by omega
                  by_cases hB : (4294967294 : Int) < A
                  · go_wp2_with fail
                    go_ret
                    exact ⟨ret_int (by rw [EE.out]; simp <;> omega), OW.out⟩
                  · go_wp2_with fail
                    go_roundg 1
                    case measure => omega
                    case rel => exact ⟨1, by omega, rfl, fun h => by omega, fun h => by omega, rfl⟩
              · obtain rfl : gk = 1 := by omega
                have f0 := f0 (by omega)
                clear hi f1
                by_cases hA : B < 0
                · go_wp2_with fail
                  go_ret
                  exact ⟨ret_int (by rw [EE.out]; simp <;> omega), OW.out⟩
                · have hA' : 0 ≤ B := by omega
                  by_cases hB : (4294967294 : Int) < B
                  · go_wp2_with fail
                    go_ret
                    exact ⟨ret_int (by rw [EE.out]; simp <;> omega), OW.out⟩
                  · go_wp2_with fail
                    go_roundg 0
                    case measure => omega
                    case rel => exact ⟨2, by omega, rfl, fun h => by omega, fun h => by omega, rfl⟩
              · obtain rfl : gk = 0 := by omega
                have f0 := f0 (by omega)
                have f1 := f1 (by omega)
                clear hi
                go_wp2_with fail
                go_ret
                exact ⟨ret_int (by rw [EE.out]; simp <;> omega), OW.out⟩
end Go.Proofs.YtdkmeldcpamnnaaDoor
namespace Go.Proofs.YtdkmeldcpamnnaaDoor
open Go.RowKit
set_option linter.unusedVariables false

/-- A kind lies at block b. -/
def KAt (w : World) (b : Nat) (m : Bool) : Prop := ∀ (j : Nat) (v : Value), (kindC m)[j]? = some v → w.cell? ⟨b, j, none⟩ = some v
theorem KAt.only {S : List Nat} {w w' : World} {b : Nat} {m : Bool} (h : KAt w b m) (k : Only S w w') (hb : b ∉ S) : KAt w' b m := fun j v hj => k.cell (h j v hj) hb
theorem KAt.lt {w : World} {b : Nat} {m : Bool} (h : KAt w b m) : b < w.heap.size := World.block_lt_of_cell? _ _ (h 0 (.int .u64 (endN m : Nat)) (by cases m <;> rfl))
theorem kat_new (w : World) (m : Bool) (t : TypeId) : KAt (w.alloc (.cells (kindC m) t)) w.heap.size m ∧ Only [] w (w.alloc (.cells (kindC m) t)) := ⟨fun j v hj => by rw [World.cell?_alloc_new]; exact hj, (Only.refl _ _).alloc _⟩
theorem KAt.k0 {w : World} {b : Nat} (h : KAt w b false) : (w.cell? ⟨b, 0, none⟩ = some (.int .u64 3) ∧ w.cell? ⟨b, 1, none⟩ = some (.int .i64 1) ∧ w.cell? ⟨b, 2, none⟩ = some (.int .i64 1) ∧ w.cell? ⟨b, 3, none⟩ = some (.int .i64 1)) ∧ w.cell? ⟨b, 4, none⟩ = some (.int .i64 (-1)) ∧ w.cell? ⟨b, 5, none⟩ = some (.int .i64 (-1)) ∧ w.cell? ⟨b, 6, none⟩ = some (.int .i64 (-1)) ∧ w.cell? ⟨b, 7, none⟩ = some (.int .i64 (-1)) :=
  ⟨⟨h 0 _ rfl, h 1 _ rfl, h 2 _ rfl, h 3 _ rfl⟩, h 4 _ rfl, h 5 _ rfl, h 6 _ rfl, h 7 _ rfl⟩
theorem KAt.k1 {w : World} {b : Nat} (h : KAt w b true) : (w.cell? ⟨b, 0, none⟩ = some (.int .u64 0) ∧ w.cell? ⟨b, 1, none⟩ = some (.int .i64 (-1)) ∧ w.cell? ⟨b, 2, none⟩ = some (.int .i64 1) ∧ w.cell? ⟨b, 3, none⟩ = some (.int .i64 1)) ∧ w.cell? ⟨b, 4, none⟩ = some (.int .i64 2) ∧ w.cell? ⟨b, 5, none⟩ = some (.int .i64 1) ∧ w.cell? ⟨b, 6, none⟩ = some (.int .i64 0) ∧ w.cell? ⟨b, 7, none⟩ = some (.int .i64 1) :=
  ⟨⟨h 0 _ rfl, h 1 _ rfl, h 2 _ rfl, h 3 _ rfl⟩, h 4 _ rfl, h 5 _ rfl, h 6 _ rfl, h 7 _ rfl⟩
theorem Vars.kat {w : World} (h : Vars w) (m : Bool) : KAt w (kindG m) m := h m

set_option maxRecDepth 100000 in
set_option maxHeartbeats 8000000 in
theorem check9_any (m : Bool) (a : Value) (l : List (Int × Int × Int)) (w : World) (ha : HoldsM w a l) (hk : OksM l) :
    Calls Tryd.prog 50 #[kindV m, a] w fun e w' => e = .returned (.int .i64 (checkI m l)) ∧ Only [] w w' := by
  have HA := hid ha
  obtain ⟨a, c, rfl, hc1, hc2, _⟩ := ha
  have hb : (l.length : Int) ≤ 9223372036854775807 := by unfold maxLen at hc2; omega
  clear hc1 hc2
  obtain ⟨r, hr⟩ : ∃ r, r = checkI m l := ⟨_, rfl⟩
  rw [← hr]
  have KN := hid (fun w => kat_new w m 86)
  have CC := hid (fun x h w => checkcmd_any m x h w)
  by_cases hl : 66 < l.length
  · rw [show checkI m l = 6 from by unfold checkI; rw [if_pos hl]] at hr
    subst hr
    have hl' : (66 : Int) < (l.length : Int) := by omega
    clear hl
    cases m
    all_goals
      simp only [kindV, kindC]
      go_enter Tryd.func50, Tryd.ntmps50
      go_wp2_with fail
      go_ret
      exact ⟨rfl, (Only.refl _ _).alloc _⟩
  rw [show checkI m l = firstE m l from by unfold checkI; rw [if_neg hl]] at hr
  have R := hid hr
  have hl' : ¬ (66 : Int) < (l.length : Int) := by omega
  have HK := hid hk
  obtain ⟨n, hn⟩ : ∃ n, n = l.length := ⟨_, rfl⟩
  have N := hid hn
  have nb : (n : Int) ≤ 66 := by omega
  rw [← hn] at hl' ⊢
  clear hr hl hk hn hb
  cases m with
  | false =>
    simp only [kindV, kindC] at CC KN ⊢
    go_enter Tryd.func50, Tryd.ntmps50
    go_wp2_with fail
    have K0 := hid (KN.out w)
    clear KN
    generalize hW : w.alloc _ = W at *
    have KD := hid (show KAt W w.heap.size false ∧ Only [] w W from K0.out)
    have hDW : w.heap.size < W.heap.size := KD.out.1.lt
    generalize w.heap.size = D at *
    clear hW K0
    go_loopg [13] n (fun g t wr => ∃ j : Nat, j + g = n ∧ t = .int .i64 j ∧ firstE false (l.drop j) = r ∧ Only [] W wr)
    case atStart => exact ⟨0, by omega, rfl, by rw [List.drop_zero]; exact R.out.symm, Only.refl _ _⟩
    case round =>
      obtain ⟨j, hj, rfl, ht, hO⟩ := hrel
      have J := hid hj
      have T := hid ht
      have O := hid hO
      clear ht hO
      have jb : (j : Int) ≤ 66 := by omega
      have j0 : (0 : Int) ≤ (j : Int) := by omega
      by_cases hg : gk = 0
      · obtain rfl : j = n := by omega
        have i1 : ¬ (j : Int) < (j : Int) := by omega
        have e := T.out
        rw [List.drop_of_length_le (by have := N.out; omega)] at e
        have E : r = 0 := e.symm
        subst E
        clear hj hg e
        go_wp2_with fail
        go_ret
        exact ⟨rfl, KD.out.2.trans O.out⟩
      · have i1 : (j : Int) < (n : Int) := by omega
        obtain ⟨g, rfl⟩ : ∃ g, gk = g + 1 := ⟨gk - 1, by omega⟩
        obtain ⟨x, X, hD⟩ := drop_oneM l j (by have := N.out; omega)
        have C1 := hid (fun w => CC.out x (HK.out j x X) w)
        obtain ⟨xb, xo, rfl, hx⟩ := HA.out.at X
        obtain ⟨x0, x1, x2⟩ := (hx.only KD.out.2 (by simp)).only O.out (by simp)
        have F := T.out
        rw [hD, firstE] at F
        have JG := hid (show j + 1 + g = n by omega)
        have FF := hid F
        generalize errI false x = er at *
        obtain ⟨op, A, B⟩ := x
        dsimp only at *
        have OX := hid (O.out.alloc (Obj.cells #[.int .u8 op, .int .i64 A, .int .i64 B] 50))
        have KX := hid (KD.out.1.only OX.out (by simp))
        clear hj hg hx X hD T CC F
        obtain ⟨⟨k0, k1, k2, k3⟩, k4, k5, k6, k7⟩ := KX.out.k0
        go_wp2_with fail
        refine (C1.out _).mono ?_
        rintro e w2 ⟨rfl, hO2⟩
        have O2 := hid (OX.out.trans hO2)
        clear hO2 C1 k0 k1 k2 k3 k4 k5 k6 k7 KX OX x0 x1 x2
        by_cases hE : er = 0
        · have F2 := hid (show firstE false (l.drop (j + 1)) = r by have := FF.out; rw [if_neg (fun z => z hE)] at this; exact this)
          clear FF
          subst hE
          go_wp2_with fail
          go_roundg g
          case measure => omega
          case rel => exact ⟨j + 1, JG.out, by go_num, F2.out, O2.out⟩
        · have F2 : er = r := by have := FF.out; rw [if_pos hE] at this; exact this
          subst F2
          clear FF
          go_wp2_with fail
          go_ret
          exact ⟨rfl, KD.out.2.trans O2.out⟩
  | true =>
    simp only [kindV, kindC] at CC KN ⊢
    go_enter Tryd.func50, Tryd.ntmps50
    go_wp2_with fail
    have K0 := hid (KN.out w)
    clear KN
    generalize hW : w.alloc _ = W at *
    have KD := hid (show KAt W w.heap.size true ∧ Only [] w W from K0.out)
    have hDW : w.heap.size < W.heap.size := KD.out.1.lt
    generalize w.heap.size = D at *
    clear hW K0
    go_loopg [13] n (fun g t wr => ∃ j : Nat, j + g = n ∧ t = .int .i64 j ∧ firstE true (l.drop j) = r ∧ Only [] W wr)
    case atStart => exact ⟨0, by omega, rfl, by rw [List.drop_zero]; exact R.out.symm, Only.refl _ _⟩
    case round =>
      obtain ⟨j, hj, rfl, ht, hO⟩ := hrel
      have J := hid hj
      have T := hid ht
      have O := hid hO
      clear ht hO
      have jb : (j : Int) ≤ 66 := by omega
      have j0 : (0 : Int) ≤ (j : Int) := by omega
      by_cases hg : gk = 0
      · obtain rfl : j = n := by omega
        have i1 : ¬ (j : Int) < (j : Int) := by omega
        have e := T.out
        rw [List.drop_of_length_le (by have := N.out; omega)] at e
        have E : r = 0 := e.symm
        subst E
        clear hj hg e
        go_wp2_with fail
        go_ret
        exact ⟨rfl, KD.out.2.trans O.out⟩
      · have i1 : (j : Int) < (n : Int) := by omega
        obtain ⟨g, rfl⟩ : ∃ g, gk = g + 1 := ⟨gk - 1, by omega⟩
        obtain ⟨x, X, hD⟩ := drop_oneM l j (by have := N.out; omega)
        have C1 := hid (fun w => CC.out x (HK.out j x X) w)
        obtain ⟨xb, xo, rfl, hx⟩ := HA.out.at X
        obtain ⟨x0, x1, x2⟩ := (hx.only KD.out.2 (by simp)).only O.out (by simp)
        have F := T.out
        rw [hD, firstE] at F
        have JG := hid (show j + 1 + g = n by omega)
        have FF := hid F
        generalize errI true x = er at *
        obtain ⟨op, A, B⟩ := x
        dsimp only at *
        have OX := hid (O.out.alloc (Obj.cells #[.int .u8 op, .int .i64 A, .int .i64 B] 50))
        have KX := hid (KD.out.1.only OX.out (by simp))
        clear hj hg hx X hD T CC F
        obtain ⟨⟨k0, k1, k2, k3⟩, k4, k5, k6, k7⟩ := KX.out.k1
        go_wp2_with fail
        refine (C1.out _).mono ?_
        rintro e w2 ⟨rfl, hO2⟩
        have O2 := hid (OX.out.trans hO2)
        clear hO2 C1 k0 k1 k2 k3 k4 k5 k6 k7 KX OX x0 x1 x2
        by_cases hE : er = 0
        · have F2 := hid (show firstE true (l.drop (j + 1)) = r by have := FF.out; rw [if_neg (fun z => z hE)] at this; exact this)
          clear FF
          subst hE
          go_wp2_with fail
          go_roundg g
          case measure => omega
          case rel => exact ⟨j + 1, JG.out, by go_num, F2.out, O2.out⟩
        · have F2 : er = r := by have := FF.out; rw [if_pos hE] at this; exact this
          subst F2
          clear FF
          go_wp2_with fail
          go_ret
          exact ⟨rfl, KD.out.2.trans O2.out⟩
end Go.Proofs.YtdkmeldcpamnnaaDoor
