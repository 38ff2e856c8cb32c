/- The two kinds of lists, as the program's values and in memory; how many numbers a command has. -/
/- The program's check of a list; CheckMods, CheckMarks. Ahead of it: The program's check. -/
/- The program's command: what is read behind an Op that is not the end. -/
import Derived.Test.YtjjjfmnhdnajkaaGreatDoorRows
import Derived.Test.YtjjjfmnhdnajkaaGreatDoorMg5
import Derived.Test.YtjjjfmnhdnajkaaGreatDoorMg6
import Derived.Test.YtjjjfmnhdnajkaaGreatDoorMg2
import Derived.Lib.LaidU8
import Derived.ChangeSame
import Derived.Deep.DeepCutAuto
import Derived.Deep.LoopGhost
import Derived.Test.YtjjjfmnhdnajkaaGreatDoorMg10
import Derived.Test.YtjjjfmnhdnajkaaGreatDoorMg8
section
set_option maxRecDepth 20000
namespace Go.Proofs.YtjjjfmnhdnajkaaGreatDoor
open Go.RowKit
set_option linter.unusedVariables false

/-- A kind of lists: eight cells. -/
def kindC : Bool → Array Value
  | false => #[.int .u64 3, .int .i64 1, .int .i64 1, .int .i64 1, .int .i64 (-1), .int .i64 (-1), .int .i64 (-1), .int .i64 (-1)]
  | true => #[.int .u64 0, .int .i64 (-1), .int .i64 1, .int .i64 1, .int .i64 2, .int .i64 1, .int .i64 0, .int .i64 1]
def kindV (m : Bool) : Value := .agg (kindC m)
/-- How many numbers the command has; -1: there is none. -/
def cntI (m : Bool) (op : Int) : Int := if (hasI m op).2 = true then (hasI m op).1 else -1

set_option maxHeartbeats 2000000 in
theorem count_any (m : Bool) (op : Int) (h0 : 0 ≤ op) (w : World) : Calls Tryz.prog 157 #[kindV m, .int .u64 op] w fun e w' => e = .returned (.int .i64 (cntI m op)) ∧ Only [] w w' := by
  by_cases h7 : op < 7
  · have : op = 0 ∨ op = 1 ∨ op = 2 ∨ op = 3 ∨ op = 4 ∨ op = 5 ∨ op = 6 := by omega
    clear h0 h7
    cases m
    all_goals
      rcases this with rfl | rfl | rfl | rfl | rfl | rfl | rfl
      all_goals
        simp only [kindV, kindC]
        go_enter Tryz.func157, Tryz.ntmps157
        go_wp2_with fail
        go_ret
        exact ⟨rfl, (Only.refl _ _).alloc _⟩
  · have h7' : (7 : Int) ≤ op := by omega
    rw [show cntI m op = -1 from by
      unfold cntI
      rw [if_neg]
      intro h
      have := hasI_le h
      omega]
    clear h7
    cases m
    all_goals
      simp only [kindV, kindC]
      go_enter Tryz.func157, Tryz.ntmps157
      go_wp2_with fail
      go_ret
      exact ⟨rfl, (Only.refl _ _).alloc _⟩

/-- Where a kind lies: the package's two variables. -/
def kindG : Bool → Nat
  | false => 0
  | true => 1
/-- The two variables hold what the program's text lays. -/
def Vars (w : World) : Prop := ∀ (m : Bool) (j : Nat) (v : Value), (kindC m)[j]? = some v → w.cell? ⟨kindG m, j, none⟩ = some v
theorem Vars.first {w : World} (h : Vars w) (m : Bool) : w.cell? ⟨kindG m, 0, none⟩ = some (.int .u64 (endN m : Nat)) := h m 0 _ (by cases m <;> rfl)
theorem Vars.only {S : List Nat} {w w' : World} (h : Vars w) (k : Only S w w') (hS : ∀ m, kindG m ∉ S) : Vars w' := fun m j v hj => k.cell (h m j v hj) (hS m)
theorem Vars.only0 {w w' : World} (h : Vars w) (k : Only [] w w') : Vars w' := h.only k (fun _ => by simp)
theorem Vars.lt {w : World} (h : Vars w) (m : Bool) : kindG m < w.heap.size := World.block_lt_of_cell? _ _ (h.first m)
/-- What lies in blocks that are new to a world with the variables. -/
theorem Vars.new {S : List Nat} {w w' w0 : World} (h : Vars w) (h0 : Vars w0) (k : Only S w w') (hS : ∀ b, b ∈ S → w0.heap.size ≤ b) : Vars w' := h.only k (fun m hm => by have := hS _ hm; have := h0.lt m; omega)
theorem Vars.rd {w w' : World} {b : Nat} {s : ByteArray} {pos : Nat} (h : Vars w) (hr : Rd w b s pos) (k : Only [b] w w') : Vars w' := h.only k (fun m hm => by
  have e : kindG m = b := by simpa using hm
  have := h.first m
  rw [e, hr.hs] at this
  cases this)
theorem Vars.drewN {w : World} (h : Vars w) (n : Nat) : Vars (w.drewN n) := h
end Go.Proofs.YtjjjfmnhdnajkaaGreatDoor
namespace Go.Proofs.YtjjjfmnhdnajkaaGreatDoor
open Go.RowKit
set_option linter.unusedVariables false

theorem und_kind : ∃ f0 f1 : Field, Tryz.prog.underlying 186 = some (.struct #[f0, f1]) ∧ f0.type = 60 ∧ f0.offset = 0 ∧ f1.type = 184 ∧ f1.offset = 1 := ⟨_, _, Tryz.underlying186, rfl, rfl, rfl, rfl⟩
/-- One variable's cells. -/
theorem cells_of_kind {W : World} {n : String} {e : Int} {zs : List Int} {g : Nat} (hg : Tryz.prog.globalNamed n = some g) (ht : (Tryz.prog.globals[g]?).map (·.type) = some 186)
    (h : Lib.VarReads Tryz.prog W n (.agg [.lit (.int .u64 e), Lib.tabData .i64 zs])) (hz : zs.length = 7) : ∀ (j : Nat) (v : Value), (Value.int .u64 e :: zs.map fun z => Value.int .i64 z)[j]? = some v → W.cell? ⟨g, j, none⟩ = some v := by
  obtain ⟨g', t', cs, fuel, p, hg', ht', hvar, hd⟩ := h
  obtain rfl := Option.some.inj (hg.symm.trans hg')
  obtain rfl := Option.some.inj (ht.symm.trans ht')
  obtain ⟨f0, f1, hu, t0, o0, t1, o1⟩ := und_kind
  obtain ⟨y0, y1, m, hy, hl, h0, h1⟩ := Go.ChangeShapes.trod_struct2 hu hd
  rw [t0, o0] at h0
  rw [t1, o1] at h1
  clear hu
  obtain ⟨z0, c0, e0, _⟩ := DataW.trod_int (k := .u64) (by kernel_rfl) h0
  have e1 : y1.1 = Lib.tabData .i64 zs := by
    have := congrArg Prod.fst hy
    simp only [DataW.agg.injEq, List.cons.injEq, and_true] at this
    exact this.2.symm
  have e2 : y0.1 = DataW.lit (.int .u64 e) := by
    have := congrArg Prod.fst hy
    simp only [DataW.agg.injEq, List.cons.injEq, and_true] at this
    exact this.1.symm
  have e3 : z0 = e := by
    rw [e0] at e2
    simpa using e2
  subst e3
  obtain ⟨d1, q1⟩ := y1
  simp only at e1
  subst e1
  have c1 := Lib.cells_of_tab (k := .i64) (n := 7) (e := 3) (by kernel_rfl) (by kernel_rfl) (by kernel_rfl) (by kernel_rfl) h1
  rw [show Tryz.prog.cellsOf 186 = 8 by kernel_rfl] at hl
  rw [show Tryz.prog.cellsOf 60 = 1 by kernel_rfl] at c0
  rw [show Tryz.prog.cellsOf 184 = 7 by kernel_rfl] at c1
  have hall : cs.toList = Value.int .u64 z0 :: zs.map fun z => Value.int .i64 z := by
    rw [List.drop_zero] at c0
    clear hd hvar
    generalize cs.toList = L at *
    cases L with
    | nil => cases hl
    | cons a r =>
      simp only [List.take_succ_cons, List.take_zero, List.cons.injEq, and_true] at c0
      subst c0
      simp only [List.length_cons] at hl
      rw [List.drop_succ_cons, List.drop_zero, List.take_of_length_le (by omega)] at c1
      rw [c1]
  intro j v hj
  rw [World.var?_cell hg hvar j, ← hall] at *
  simpa using hj
theorem vars_of {W : World} (h : laidMet Tryz.prog [("spindle/marks.modifications", .agg [.lit (.int .u64 3), Lib.tabData .i64 [1, 1, 1, -1, -1, -1, -1]]), ("spindle/marks.markings", .agg [.lit (.int .u64 0), Lib.tabData .i64 [-1, 1, 1, 2, 1, 0, 1]])] W) : Vars W := by
  intro m j v hj
  cases m with
  | false => exact cells_of_kind (by kernel_rfl) (by kernel_rfl) (Lib.laidMet.reads h (.head _)) rfl j v (by simpa [kindC] using hj)
  | true => exact cells_of_kind (by kernel_rfl) (by kernel_rfl) (Lib.laidMet.reads h (.tail _ (.head _))) rfl j v (by simpa [kindC] using hj)
end Go.Proofs.YtjjjfmnhdnajkaaGreatDoor

end
section
set_option maxRecDepth 20000
namespace Go.Proofs.YtjjjfmnhdnajkaaGreatDoor
open Go.RowKit
set_option linter.unusedVariables false

set_option maxRecDepth 100000 in
set_option maxHeartbeats 8000000 in
theorem checkcmd_any (m : Bool) (x : Int × Int × Int) (hx : OkM x) (w : World) : Calls Tryz.prog 154 #[kindV m, .agg #[.int .u8 x.1, .int .i64 x.2.1, .int .i64 x.2.2]] w fun e w' => e = .returned (.int .i64 (errI m x)) ∧ Only [] w w' := by
  obtain ⟨⟨o0, o1⟩, ⟨p0, p1⟩, ⟨q0, q1⟩⟩ := hx
  have HN := hasI_n (m := m) (op := x.1)
  have CC := hid (fun w => count_any m x.1 o0 w)
  have E1 : errI m x = if (hasI m x.1).2 = false then 9 else if ((hasI m x.1).1 < 2 ∧ x.2.2 ≠ 0) ∨ ((hasI m x.1).1 < 1 ∧ x.2.1 ≠ 0) then 2 else if x.2.1 < 0 ∨ 4294967294 < x.2.1 ∨ x.2.2 < 0 ∨ 4294967294 < x.2.2 then 3 else 0 := rfl
  simp only [cntI] at CC
  generalize errI m x = er at *
  generalize hasI m x.1 = h at *
  obtain ⟨nn, is⟩ := h
  obtain ⟨op, A, B⟩ := x
  dsimp only at *
  have EE := hid E1
  clear E1
  cases m
  all_goals
    simp only [kindV, kindC] at CC ⊢
    cases is with
    | false =>
      simp only [Bool.false_eq_true, if_false] at CC
      go_enter Tryz.func154, Tryz.ntmps154
      go_wp2_with fail
      refine (CC.out _).mono ?_
      rintro e w1 ⟨rfl, hO⟩
      have O := hid hO
      clear hO
      go_wp2_with fail
      go_ret
      exact ⟨ret_int (by rw [EE.out]; rfl), (((Only.refl [] w).alloc _).alloc _).trans O.out⟩
    | true =>
      simp only [if_true] at CC
      rcases HN with rfl | rfl | rfl
      · go_enter Tryz.func154, Tryz.ntmps154
        go_wp2_with fail
        refine (CC.out _).mono ?_
        rintro e w1 ⟨rfl, hO⟩
        have O := hid ((((Only.refl [] w).alloc _).alloc _).trans hO)
        have c0 := hO.cell (p := ⟨w.heap.size + 1, 1, none⟩) (v := .int .i64 A) (by simp) (by simp)
        have c1 := hO.cell (p := ⟨w.heap.size + 1, 2, none⟩) (v := .int .i64 B) (by simp) (by simp)
        clear hO
        go_wp2_with fail
        generalize hW : w1.alloc _ = W
        have d0 : W.cell? ⟨w1.heap.size, 0, none⟩ = some (.int .i64 A) := by rw [← hW]; simp
        have d1 : W.cell? ⟨w1.heap.size, 1, none⟩ = some (.int .i64 B) := by rw [← hW]; simp
        have OW := hid (show Only [] w W from hW ▸ O.out.alloc _)
        generalize w1.heap.size = D at *
        clear hW c0 c1 O
        go_loopg [26] 2 (fun g t wr => ∃ i : Nat, i + g = 2 ∧ t = .int .i64 i ∧ (1 ≤ i → A = 0) ∧ (2 ≤ i → B = 0) ∧ W = wr)
        case atStart => exact ⟨0, by omega, rfl, fun h => absurd h (by omega), fun h => absurd h (by omega), rfl⟩
        case round =>
          obtain ⟨i, hi, rfl, f0, f1, rfl⟩ := hrel
          have hi2 : i = 0 ∨ i = 1 ∨ i = 2 := by omega
          rcases hi2 with rfl | rfl | rfl
          · obtain rfl : gk = 2 := by omega
            clear hi f0 f1
            by_cases hA : A = 0
            · go_wp2_with fail
              go_roundg 1
              case measure => omega
              case rel => exact ⟨1, by omega, rfl, fun h => by omega, fun h => by omega, rfl⟩
            · go_wp2_with fail
              go_ret
              exact ⟨ret_int (by rw [EE.out]; simp <;> omega), OW.out⟩
          · obtain rfl : gk = 1 := by omega
            have F0 := hid (f0 (by omega))
            clear hi f0 f1
            by_cases hA : B = 0
            · go_wp2_with fail
              go_roundg 0
              case measure => omega
              case rel => exact ⟨2, by omega, rfl, fun h => F0.out, fun h => by omega, rfl⟩
            · go_wp2_with fail
              go_ret
              exact ⟨ret_int (by rw [EE.out]; have := F0.out; simp <;> omega), OW.out⟩
          · obtain rfl : gk = 0 := by omega
            have F0 := hid (f0 (by omega))
            have F1 := hid (f1 (by omega))
            clear hi f0 f1
            go_wp2_with fail
            go_loopg [36] 0 (fun g t wr => ∃ i : Nat, i + g = 0 ∧ t = .int .i64 i ∧ W = wr)
            case atStart => exact ⟨0, by omega, rfl, rfl⟩
            case round =>
              obtain ⟨i, hi, rfl, rfl⟩ := hrel
              have hi2 : i = 0 := by omega
              rcases hi2 with rfl
              · obtain rfl : gk = 0 := by omega
                clear hi
                go_wp2_with fail
                go_ret
                exact ⟨ret_int (by rw [EE.out]; have := F0.out; have := F1.out; simp <;> omega), OW.out⟩
      · go_enter Tryz.func154, Tryz.ntmps154
        go_wp2_with fail
        refine (CC.out _).mono ?_
        rintro e w1 ⟨rfl, hO⟩
        have O := hid ((((Only.refl [] w).alloc _).alloc _).trans hO)
        have c0 := hO.cell (p := ⟨w.heap.size + 1, 1, none⟩) (v := .int .i64 A) (by simp) (by simp)
        have c1 := hO.cell (p := ⟨w.heap.size + 1, 2, none⟩) (v := .int .i64 B) (by simp) (by simp)
        clear hO
        go_wp2_with fail
        generalize hW : w1.alloc _ = W
        have d0 : W.cell? ⟨w1.heap.size, 0, none⟩ = some (.int .i64 A) := by rw [← hW]; simp
        have d1 : W.cell? ⟨w1.heap.size, 1, none⟩ = some (.int .i64 B) := by rw [← hW]; simp
        have OW := hid (show Only [] w W from hW ▸ O.out.alloc _)
        generalize w1.heap.size = D at *
        clear hW c0 c1 O
        go_loopg [26] 1 (fun g t wr => ∃ i : Nat, i + g = 1 ∧ t = .int .i64 i ∧ (1 ≤ i → B = 0) ∧ W = wr)
        case atStart => exact ⟨0, by omega, rfl, fun h => absurd h (by omega), rfl⟩
        case round =>
          obtain ⟨i, hi, rfl, f0, rfl⟩ := hrel
          have hi2 : i = 0 ∨ i = 1 := by omega
          rcases hi2 with rfl | rfl
          · obtain rfl : gk = 1 := by omega
            clear hi f0
            by_cases hA : B = 0
            · go_wp2_with fail
              go_roundg 0
              case measure => omega
              case rel => exact ⟨1, by omega, rfl, fun h => by omega, rfl⟩
            · go_wp2_with fail
              go_ret
              exact ⟨ret_int (by rw [EE.out]; simp <;> omega), OW.out⟩
          · obtain rfl : gk = 0 := by omega
            have F0 := hid (f0 (by omega))
            clear hi f0
            go_wp2_with fail
            go_loopg [36] 1 (fun g t wr => ∃ i : Nat, i + g = 1 ∧ t = .int .i64 i ∧ (1 ≤ i → 0 ≤ A ∧ A ≤ 4294967294) ∧ W = wr)
            case atStart => exact ⟨0, by omega, rfl, fun h => absurd h (by omega), rfl⟩
            case round =>
              obtain ⟨i, hi, rfl, f0, rfl⟩ := hrel
              have hi2 : i = 0 ∨ i = 1 := by omega
              rcases hi2 with rfl | rfl
              · obtain rfl : gk = 1 := by omega
                clear hi f0
                by_cases hA : A < 0
                · go_wp2_with fail
                  go_ret
                  exact ⟨ret_int (by rw [EE.out]; have := F0.out; simp <;> omega), OW.out⟩
                · have hA' : 0 ≤ A := by omega
                  by_cases hB : (4294967294 : Int) < A
                  · go_wp2_with fail
                    go_ret
                    exact ⟨ret_int (by rw [EE.out]; have := F0.out; simp <;> omega), OW.out⟩
                  · go_wp2_with fail
                    go_roundg 0
                    case measure => omega
                    case rel => exact ⟨1, by omega, rfl, fun h => by omega, rfl⟩
              · obtain rfl : gk = 0 := by omega
                have f0 := f0 (by omega)
                clear hi
                go_wp2_with fail
                go_ret
                exact ⟨ret_int (by rw [EE.out]; have := F0.out; simp <;> omega), OW.out⟩
      · go_enter Tryz.func154, Tryz.ntmps154
        go_wp2_with fail
        refine (CC.out _).mono ?_
        rintro e w1 ⟨rfl, hO⟩
        have O := hid ((((Only.refl [] w).alloc _).alloc _).trans hO)
        have c0 := hO.cell (p := ⟨w.heap.size + 1, 1, none⟩) (v := .int .i64 A) (by simp) (by simp)
        have c1 := hO.cell (p := ⟨w.heap.size + 1, 2, none⟩) (v := .int .i64 B) (by simp) (by simp)
        clear hO
        go_wp2_with fail
        generalize hW : w1.alloc _ = W
        have d0 : W.cell? ⟨w1.heap.size, 0, none⟩ = some (.int .i64 A) := by rw [← hW]; simp
        have d1 : W.cell? ⟨w1.heap.size, 1, none⟩ = some (.int .i64 B) := by rw [← hW]; simp
        have OW := hid (show Only [] w W from hW ▸ O.out.alloc _)
        generalize w1.heap.size = D at *
        clear hW c0 c1 O
        go_loopg [26] 0 (fun g t wr => ∃ i : Nat, i + g = 0 ∧ t = .int .i64 i ∧ W = wr)
        case atStart => exact ⟨0, by omega, rfl, rfl⟩
        case round =>
          obtain ⟨i, hi, rfl, rfl⟩ := hrel
          have hi2 : i = 0 := by omega
          rcases hi2 with rfl
          · obtain rfl : gk = 0 := by omega
            clear hi 
            go_wp2_with fail
            go_loopg [36] 2 (fun g t wr => ∃ i : Nat, i + g = 2 ∧ t = .int .i64 i ∧ (1 ≤ i → 0 ≤ A ∧ A ≤ 4294967294) ∧ (2 ≤ i → 0 ≤ B ∧ B ≤ 4294967294) ∧ W = wr)
            case atStart => exact ⟨0, by omega, rfl, fun h => absurd h (by omega), fun h => absurd h (by omega), rfl⟩
            case round =>
              obtain ⟨i, hi, rfl, f0, f1, rfl⟩ := hrel
              have hi2 : i = 0 ∨ i = 1 ∨ i = 2 := by omega
              rcases hi2 with rfl | rfl | rfl
              · obtain rfl : gk = 2 := by omega
                clear hi f0 f1
                by_cases hA : A < 0
                · go_wp2_with fail
                  go_ret
                  exact ⟨ret_int (by rw [EE.out]; simp <;> omega), OW.out⟩
                · have hA' : 0 ≤ A := by omega
                  by_cases hB : (4294967294 : Int) < A
                  · go_wp2_with fail
                    go_ret
                    exact ⟨ret_int (by rw [EE.out]; simp <;> omega), OW.out⟩
                  · go_wp2_with fail
                    go_roundg 1
                    case measure => omega
                    case rel => exact ⟨1, by omega, rfl, fun h => by omega, fun h => by omega, rfl⟩
              · obtain rfl : gk = 1 := by omega
                have f0 := f0 (by omega)
                clear hi f1
                by_cases hA : B < 0
                · go_wp2_with fail
                  go_ret
                  exact ⟨ret_int (by rw [EE.out]; simp <;> omega), OW.out⟩
                · have hA' : 0 ≤ B := by omega
                  by_cases hB : (4294967294 : Int) < B
                  · go_wp2_with fail
                    go_ret
                    exact ⟨ret_int (by rw [EE.out]; simp <;> omega), OW.out⟩
                  · go_wp2_with fail
                    go_roundg 0
                    case measure => omega
                    case rel => exact ⟨2, by omega, rfl, fun h => by omega, fun h => by omega, rfl⟩
              · obtain rfl : gk = 0 := by omega
                have f0 := f0 (by omega)
                have f1 := f1 (by omega)
                clear hi
                go_wp2_with fail
                go_ret
                exact ⟨ret_int (by rw [EE.out]; simp <;> omega), OW.out⟩
end Go.Proofs.YtjjjfmnhdnajkaaGreatDoor
namespace Go.Proofs.YtjjjfmnhdnajkaaGreatDoor
open Go.RowKit
set_option linter.unusedVariables false

/-- A kind lies at block b. -/
def KAt (w : World) (b : Nat) (m : Bool) : Prop := ∀ (j : Nat) (v : Value), (kindC m)[j]? = some v → w.cell? ⟨b, j, none⟩ = some v
theorem KAt.only {S : List Nat} {w w' : World} {b : Nat} {m : Bool} (h : KAt w b m) (k : Only S w w') (hb : b ∉ S) : KAt w' b m := fun j v hj => k.cell (h j v hj) hb
theorem KAt.lt {w : World} {b : Nat} {m : Bool} (h : KAt w b m) : b < w.heap.size := World.block_lt_of_cell? _ _ (h 0 (.int .u64 (endN m : Nat)) (by cases m <;> rfl))
theorem kat_new (w : World) (m : Bool) (t : TypeId) : KAt (w.alloc (.cells (kindC m) t)) w.heap.size m ∧ Only [] w (w.alloc (.cells (kindC m) t)) := ⟨fun j v hj => by rw [World.cell?_alloc_new]; exact hj, (Only.refl _ _).alloc _⟩
theorem KAt.k0 {w : World} {b : Nat} (h : KAt w b false) : (w.cell? ⟨b, 0, none⟩ = some (.int .u64 3) ∧ w.cell? ⟨b, 1, none⟩ = some (.int .i64 1) ∧ w.cell? ⟨b, 2, none⟩ = some (.int .i64 1) ∧ w.cell? ⟨b, 3, none⟩ = some (.int .i64 1)) ∧ w.cell? ⟨b, 4, none⟩ = some (.int .i64 (-1)) ∧ w.cell? ⟨b, 5, none⟩ = some (.int .i64 (-1)) ∧ w.cell? ⟨b, 6, none⟩ = some (.int .i64 (-1)) ∧ w.cell? ⟨b, 7, none⟩ = some (.int .i64 (-1)) :=
  ⟨⟨h 0 _ rfl, h 1 _ rfl, h 2 _ rfl, h 3 _ rfl⟩, h 4 _ rfl, h 5 _ rfl, h 6 _ rfl, h 7 _ rfl⟩
theorem KAt.k1 {w : World} {b : Nat} (h : KAt w b true) : (w.cell? ⟨b, 0, none⟩ = some (.int .u64 0) ∧ w.cell? ⟨b, 1, none⟩ = some (.int .i64 (-1)) ∧ w.cell? ⟨b, 2, none⟩ = some (.int .i64 1) ∧ w.cell? ⟨b, 3, none⟩ = some (.int .i64 1)) ∧ w.cell? ⟨b, 4, none⟩ = some (.int .i64 2) ∧ w.cell? ⟨b, 5, none⟩ = some (.int .i64 1) ∧ w.cell? ⟨b, 6, none⟩ = some (.int .i64 0) ∧ w.cell? ⟨b, 7, none⟩ = some (.int .i64 1) :=
  ⟨⟨h 0 _ rfl, h 1 _ rfl, h 2 _ rfl, h 3 _ rfl⟩, h 4 _ rfl, h 5 _ rfl, h 6 _ rfl, h 7 _ rfl⟩
theorem Vars.kat {w : World} (h : Vars w) (m : Bool) : KAt w (kindG m) m := h m

set_option maxRecDepth 100000 in
set_option maxHeartbeats 8000000 in
theorem check9_any (m : Bool) (a : Value) (l : List (Int × Int × Int)) (w : World) (ha : HoldsM w a l) (hk : OksM l) :
    Calls Tryz.prog 149 #[kindV m, a] w fun e w' => e = .returned (.int .i64 (checkI m l)) ∧ Only [] w w' := by
  have HA := hid ha
  obtain ⟨a, c, rfl, hc1, hc2, _⟩ := ha
  have hb : (l.length : Int) ≤ 9223372036854775807 := by unfold maxLen at hc2; omega
  clear hc1 hc2
  obtain ⟨r, hr⟩ : ∃ r, r = checkI m l := ⟨_, rfl⟩
  rw [← hr]
  have KN := hid (fun w => kat_new w m 186)
  have CC := hid (fun x h w => checkcmd_any m x h w)
  by_cases hl : 66 < l.length
  · rw [show checkI m l = 6 from by unfold checkI; rw [if_pos hl]] at hr
    subst hr
    have hl' : (66 : Int) < (l.length : Int) := by omega
    clear hl
    cases m
    all_goals
      simp only [kindV, kindC]
      go_enter Tryz.func149, Tryz.ntmps149
      go_wp2_with fail
      go_ret
      exact ⟨rfl, (Only.refl _ _).alloc _⟩
  rw [show checkI m l = firstE m l from by unfold checkI; rw [if_neg hl]] at hr
  have R := hid hr
  have hl' : ¬ (66 : Int) < (l.length : Int) := by omega
  have HK := hid hk
  obtain ⟨n, hn⟩ : ∃ n, n = l.length := ⟨_, rfl⟩
  have N := hid hn
  have nb : (n : Int) ≤ 66 := by omega
  rw [← hn] at hl' ⊢
  clear hr hl hk hn hb
  cases m with
  | false =>
    simp only [kindV, kindC] at CC KN ⊢
    go_enter Tryz.func149, Tryz.ntmps149
    go_wp2_with fail
    have K0 := hid (KN.out w)
    clear KN
    generalize hW : w.alloc _ = W at *
    have KD := hid (show KAt W w.heap.size false ∧ Only [] w W from K0.out)
    have hDW : w.heap.size < W.heap.size := KD.out.1.lt
    generalize w.heap.size = D at *
    clear hW K0
    go_loopg [13] n (fun g t wr => ∃ j : Nat, j + g = n ∧ t = .int .i64 j ∧ firstE false (l.drop j) = r ∧ Only [] W wr)
    case atStart => exact ⟨0, by omega, rfl, by rw [List.drop_zero]; exact R.out.symm, Only.refl _ _⟩
    case round =>
      obtain ⟨j, hj, rfl, ht, hO⟩ := hrel
      have J := hid hj
      have T := hid ht
      have O := hid hO
      clear ht hO
      have jb : (j : Int) ≤ 66 := by omega
      have j0 : (0 : Int) ≤ (j : Int) := by omega
      by_cases hg : gk = 0
      · obtain rfl : j = n := by omega
        have i1 : ¬ (j : Int) < (j : Int) := by omega
        have e := T.out
        rw [List.drop_of_length_le (by have := N.out; omega)] at e
        have E : r = 0 := e.symm
        subst E
        clear hj hg e
        go_wp2_with fail
        go_ret
        exact ⟨rfl, KD.out.2.trans O.out⟩
      · have i1 : (j : Int) < (n : Int) := by omega
        obtain ⟨g, rfl⟩ : ∃ g, gk = g + 1 := ⟨gk - 1, by omega⟩
        obtain ⟨x, X, hD⟩ := drop_oneM l j (by have := N.out; omega)
        have C1 := hid (fun w => CC.out x (HK.out j x X) w)
        obtain ⟨xb, xo, rfl, hx⟩ := HA.out.at X
        obtain ⟨x0, x1, x2⟩ := (hx.only KD.out.2 (by simp)).only O.out (by simp)
        have F := T.out
        rw [hD, firstE] at F
        have JG := hid (show j + 1 + g = n by omega)
        have FF := hid F
        generalize errI false x = er at *
        obtain ⟨op, A, B⟩ := x
        dsimp only at *
        have OX := hid (O.out.alloc (Obj.cells #[.int .u8 op, .int .i64 A, .int .i64 B] 37))
        have KX := hid (KD.out.1.only OX.out (by simp))
        clear hj hg hx X hD T CC F
        obtain ⟨⟨k0, k1, k2, k3⟩, k4, k5, k6, k7⟩ := KX.out.k0
        go_wp2_with fail
        refine (C1.out _).mono ?_
        rintro e w2 ⟨rfl, hO2⟩
        have O2 := hid (OX.out.trans hO2)
        clear hO2 C1 k0 k1 k2 k3 k4 k5 k6 k7 KX OX x0 x1 x2
        by_cases hE : er = 0
        · have F2 := hid (show firstE false (l.drop (j + 1)) = r by have := FF.out; rw [if_neg (fun z => z hE)] at this; exact this)
          clear FF
          subst hE
          go_wp2_with fail
          go_roundg g
          case measure => omega
          case rel => exact ⟨j + 1, JG.out, by go_num, F2.out, O2.out⟩
        · have F2 : er = r := by have := FF.out; rw [if_pos hE] at this; exact this
          subst F2
          clear FF
          go_wp2_with fail
          go_ret
          exact ⟨rfl, KD.out.2.trans O2.out⟩
  | true =>
    simp only [kindV, kindC] at CC KN ⊢
    go_enter Tryz.func149, Tryz.ntmps149
    go_wp2_with fail
    have K0 := hid (KN.out w)
    clear KN
    generalize hW : w.alloc _ = W at *
    have KD := hid (show KAt W w.heap.size true ∧ Only [] w W from K0.out)
    have hDW : w.heap.size < W.heap.size := KD.out.1.lt
    generalize w.heap.size = D at *
    clear hW K0
    go_loopg [13] n (fun g t wr => ∃ j : Nat, j + g = n ∧ t = .int .i64 j ∧ firstE true (l.drop j) = r ∧ Only [] W wr)
    case atStart => exact ⟨0, by omega, rfl, by rw [List.drop_zero]; exact R.out.symm, Only.refl _ _⟩
    case round =>
      obtain ⟨j, hj, rfl, ht, hO⟩ := hrel
      have J := hid hj
      have T := hid ht
      have O := hid hO
      clear ht hO
      have jb : (j : Int) ≤ 66 := by omega
      have j0 : (0 : Int) ≤ (j : Int) := by omega
      by_cases hg : gk = 0
      · obtain rfl : j = n := by omega
        have i1 : ¬ (j : Int) < (j : Int) := by omega
        have e := T.out
        rw [List.drop_of_length_le (by have := N.out; omega)] at e
        have E : r = 0 := e.symm
        subst E
        clear hj hg e
        go_wp2_with fail
        go_ret
        exact ⟨rfl, KD.out.2.trans O.out⟩
      · have i1 : (j : Int) < (n : Int) := by omega
        obtain ⟨g, rfl⟩ : ∃ g, gk = g + 1 := ⟨gk - 1, by omega⟩
        obtain ⟨x, X, hD⟩ := drop_oneM l j (by have := N.out; omega)
        have C1 := hid (fun w => CC.out x (HK.out j x X) w)
        obtain ⟨xb, xo, rfl, hx⟩ := HA.out.at X
        obtain ⟨x0, x1, x2⟩ := (hx.only KD.out.2 (by simp)).only O.out (by simp)
        have F := T.out
        rw [hD, firstE] at F
        have JG := hid (show j + 1 + g = n by omega)
        have FF := hid F
        generalize errI true x = er at *
        obtain ⟨op, A, B⟩ := x
        dsimp only at *
        have OX := hid (O.out.alloc (Obj.cells #[.int .u8 op, .int .i64 A, .int .i64 B] 37))
        have KX := hid (KD.out.1.only OX.out (by simp))
        clear hj hg hx X hD T CC F
        obtain ⟨⟨k0, k1, k2, k3⟩, k4, k5, k6, k7⟩ := KX.out.k1
        go_wp2_with fail
        refine (C1.out _).mono ?_
        rintro e w2 ⟨rfl, hO2⟩
        have O2 := hid (OX.out.trans hO2)
        clear hO2 C1 k0 k1 k2 k3 k4 k5 k6 k7 KX OX x0 x1 x2
        by_cases hE : er = 0
        · have F2 := hid (show firstE true (l.drop (j + 1)) = r by have := FF.out; rw [if_neg (fun z => z hE)] at this; exact this)
          clear FF
          subst hE
          go_wp2_with fail
          go_roundg g
          case measure => omega
          case rel => exact ⟨j + 1, JG.out, by go_num, F2.out, O2.out⟩
        · have F2 : er = r := by have := FF.out; rw [if_pos hE] at this; exact this
          subst F2
          clear FF
          go_wp2_with fail
          go_ret
          exact ⟨rfl, KD.out.2.trans O2.out⟩
end Go.Proofs.YtjjjfmnhdnajkaaGreatDoor

end
section
set_option maxRecDepth 20000
namespace Go.Proofs.YtjjjfmnhdnajkaaGreatDoor
open Go.RowKit
set_option linter.unusedVariables false

theorem ue_three (b : Nat) (s : ByteArray) (pos : Nat) (w : World) (h : Rd w b s pos) (v : Nat) (e : Int) (q : Nat) (hr : rdUk s pos 0 = (v, e, q)) :
    Calls Tryz.prog 126 #[.pointer (some ⟨b, 0, none⟩)] w fun r w' => r = .returned (.tuple #[.int .u64 v, .int .i64 e]) ∧ Rd w' b s q ∧ Only [b] w w' := by
  have := ue_any b s pos w h
  rw [hr] at this
  exact this

/-- What command answers, as a step. -/
structure CmdI (m : Bool) (s : ByteArray) (full : Bool) (q : Nat) (x : Int × Int × Int) (er : Int) (p : Nat) : Prop where
  ok : er = 0 → stepI m s full q = (0, some x, p)
  no : er ≠ 0 → stepI m s full q = (er, none, 0)

/-- A command in memory that may be written. -/
structure MF (w : World) (D : Nat) (x : Int × Int × Int) : Prop where
  c0 : w.cell? ⟨D, 0, none⟩ = some (.int .u8 x.1)
  c1 : w.cell? ⟨D, 1, none⟩ = some (.int .i64 x.2.1)
  c2 : w.cell? ⟨D, 2, none⟩ = some (.int .i64 x.2.2)
  f0 : w.frozen? ⟨D, 0, none⟩ = false
  f1 : w.frozen? ⟨D, 1, none⟩ = false
  f2 : w.frozen? ⟨D, 2, none⟩ = false
theorem MF.lt {w : World} {D : Nat} {x : Int × Int × Int} (h : MF w D x) : D < w.heap.size := World.block_lt_of_cell? _ _ h.c0
theorem MF.only {S : List Nat} {w w' : World} {D : Nat} {x : Int × Int × Int} (h : MF w D x) (k : Only S w w') (hD : D ∉ S) : MF w' D x :=
  ⟨k.cell h.c0 hD, k.cell h.c1 hD, k.cell h.c2 hD, (k.frozen h.lt hD).trans h.f0, (k.frozen h.lt hD).trans h.f1, (k.frozen h.lt hD).trans h.f2⟩
theorem mf_new (w : World) (t : TypeId) (x : Int × Int × Int) : MF (w.alloc (.cells #[.int .u8 x.1, .int .i64 x.2.1, .int .i64 x.2.2] t)) w.heap.size x := ⟨by simp, by simp, by simp, by simp, by simp, by simp⟩
/-- .. and is. -/
theorem MF.set {w : World} {D : Nat} {x : Int × Int × Int} (h : MF w D x) (y : Int × Int × Int) :
    MF (((w.setCell ⟨D, 0, none⟩ (.int .u8 y.1)).setCell ⟨D, 1, none⟩ (.int .i64 y.2.1)).setCell ⟨D, 2, none⟩ (.int .i64 y.2.2)) D y ∧ Only [D] w (((w.setCell ⟨D, 0, none⟩ (.int .u8 y.1)).setCell ⟨D, 1, none⟩ (.int .i64 y.2.1)).setCell ⟨D, 2, none⟩ (.int .i64 y.2.2)) := by
  refine ⟨⟨?_, ?_, ?_, by simp [h.f0], by simp [h.f1], by simp [h.f2]⟩, (((Only.refl _ _).setCell (.inl (by simp)) _).setCell (.inl (by simp)) _).setCell (.inl (by simp)) _⟩
  · rw [World.cell?_setCell_other _ _ _ _ (by simp), World.cell?_setCell_other _ _ _ _ (by simp)]
    exact World.cell?_setCell_same _ _ _ h.c0
  · rw [World.cell?_setCell_other _ _ _ _ (by simp)]
    exact World.cell?_setCell_same _ _ _ (by rw [World.cell?_setCell_other _ _ _ _ (by simp)]; exact h.c1)
  · exact World.cell?_setCell_same _ _ _ (by rw [World.cell?_setCell_other _ _ _ _ (by simp), World.cell?_setCell_other _ _ _ _ (by simp)]; exact h.c2)

/-- Two numbers in memory that may be written. -/
structure AF (w : World) (E : Nat) (a c : Nat) : Prop where
  c0 : w.cell? ⟨E, 0, none⟩ = some (.int .u64 (a : Int))
  c1 : w.cell? ⟨E, 1, none⟩ = some (.int .u64 (c : Int))
  f0 : w.frozen? ⟨E, 0, none⟩ = false
  f1 : w.frozen? ⟨E, 1, none⟩ = false
theorem AF.lt {w : World} {E a c : Nat} (h : AF w E a c) : E < w.heap.size := World.block_lt_of_cell? _ _ h.c0
theorem AF.only {S : List Nat} {w w' : World} {E a c : Nat} (h : AF w E a c) (k : Only S w w') (hE : E ∉ S) : AF w' E a c :=
  ⟨k.cell h.c0 hE, k.cell h.c1 hE, (k.frozen h.lt hE).trans h.f0, (k.frozen h.lt hE).trans h.f1⟩
theorem af_new (w : World) (t : TypeId) : AF (w.alloc (.cells #[.int .u64 0, .int .u64 0] t)) w.heap.size 0 0 := ⟨by simp, by simp, by simp, by simp⟩
theorem AF.set0 {w : World} {E a c : Nat} (h : AF w E a c) (v : Nat) : AF (w.setCell ⟨E, 0, none⟩ (.int .u64 (v : Int))) E v c ∧ Only [E] w (w.setCell ⟨E, 0, none⟩ (.int .u64 (v : Int))) :=
  ⟨⟨World.cell?_setCell_same _ _ _ h.c0, by rw [World.cell?_setCell_other _ _ _ _ (by simp)]; exact h.c1, by simp [h.f0], by simp [h.f1]⟩, (Only.refl _ _).setCell (.inl (by simp)) _⟩
theorem AF.set1 {w : World} {E a c : Nat} (h : AF w E a c) (v : Nat) : AF (w.setCell ⟨E, 1, none⟩ (.int .u64 (v : Int))) E a v ∧ Only [E] w (w.setCell ⟨E, 1, none⟩ (.int .u64 (v : Int))) :=
  ⟨⟨by rw [World.cell?_setCell_other _ _ _ _ (by simp)]; exact h.c0, World.cell?_setCell_same _ _ _ h.c1, by simp [h.f0], by simp [h.f1]⟩, (Only.refl _ _).setCell (.inl (by simp)) _⟩

set_option maxRecDepth 100000 in
set_option maxHeartbeats 8000000 in
theorem command_any (m : Bool) (b : Nat) (s : ByteArray) (q : Nat) (op : Nat) (q1 : Nat) (k : Nat) (w : World) (h : Rd w b s q1) (hop : rdUk s q 0 = (op, 0, q1)) (hne : op ≠ endN m) (hk : k ≤ 66) (hq : q ≤ 8 * s.size) :
    Calls Tryz.prog 161 #[kindV m, .pointer (some ⟨b, 0, none⟩), .int .u64 op, .int .i64 k] w fun e w' => ∃ (y1 y2 y3 er : Int), e = .returned (.tuple #[.agg #[.int .u8 y1, .int .i64 y2, .int .i64 y3], .int .i64 er]) ∧ ∃ p : Nat, Rd w' b s p ∧ Only [b] w w' ∧ CmdI m s (decide (k = 66)) q (y1, y2, y3) er p := by
  have H := hid h
  have hm := (ue_back hq hop).1
  have Q1 := hid h.le
  have S1 : stepI m s (decide (k = 66)) q = if (hasI m op).2 = false then (9, none, 0) else if decide (k = 66) = true then (6, none, 0) else
      if (numR s q1 (decide (0 < (hasI m op).1))).2.1 ≠ 0 then ((numR s q1 (decide (0 < (hasI m op).1))).2.1, none, 0)
      else if (numR s (numR s q1 (decide (0 < (hasI m op).1))).2.2 (decide (1 < (hasI m op).1))).2.1 ≠ 0 then ((numR s (numR s q1 (decide (0 < (hasI m op).1))).2.2 (decide (1 < (hasI m op).1))).2.1, none, 0)
      else (0, some ((op : Int), (numR s q1 (decide (0 < (hasI m op).1))).1, (numR s (numR s q1 (decide (0 < (hasI m op).1))).2.2 (decide (1 < (hasI m op).1))).1), (numR s (numR s q1 (decide (0 < (hasI m op).1))).2.2 (decide (1 < (hasI m op).1))).2.2) := by
    unfold stepI
    rw [hop]
    rw [if_neg (fun x => x rfl), if_neg hne]
  have HN := hasI_n (m := m) (op := op)
  have OL : (hasI m op).2 = true → (op : Int) ≤ 6 := fun e => (hasI_le e).2.1
  have CN := hid (fun w => count_any m op (by omega) w)
  simp only [cntI] at CN
  generalize hasI m op = hh at *
  obtain ⟨nn, is⟩ := hh
  dsimp only at *
  have SS := hid S1
  have k0 : (0 : Int) ≤ (k : Int) := by omega
  have kb : (k : Int) ≤ 66 := by omega
  have b0 : (0 : Int) ≤ (op : Int) := by omega
  have b1 : (op : Int) ≤ 4294967294 := by omega
  clear S1 h hop hne hk
  cases m
  all_goals
    simp only [kindV, kindC] at CN ⊢
    cases is with
    | false =>
      simp only [Bool.false_eq_true, if_false] at CN
      clear OL
      go_enter Tryz.func161, Tryz.ntmps161
      go_wp2_with fail
      refine (CN.out _).mono ?_
      rintro e w1 ⟨rfl, hO⟩
      have F1 := hid ((mf_new (w.alloc _) _ (0, 0, 0)).only hO (by simp))
      have O1 := hid (((((Only.refl [] w).alloc _).alloc _).trans hO).mono (T := [b]) (by simp))
      have R1 := hid (H.out.only ((((Only.refl [] w).alloc _).alloc _).trans hO) (by simp))
      clear hO CN
      rw [World.size_alloc] at F1
      have DB := hid (show w.heap.size + 1 ∉ [b] by have := H.out.lt; simp; omega)
      have ND := hid (Nat.le_add_right w.heap.size 1)
      generalize w.heap.size + 1 = D at *
      obtain ⟨d0, d1, d2, f0, f1, f2⟩ := F1.out
      go_wp2_with fail
      obtain ⟨⟨e0, e1, e2, _, _, _⟩, hO2⟩ := F1.out.set (0, 0, 0)
      refine bodyPost_ret (v := .tuple #[.agg #[.int .u8 0, .int .i64 0, .int .i64 0], .int .i64 9]) (by simp [results, Tryz.results161, go_sem, e0, e1, e2]) rfl ⟨0, 0, 0, 9, rfl, q1, R1.out.only hO2 (by have := DB.out; simp at this ⊢; omega), ?_, ⟨fun e => absurd e (by decide), fun _ => by rw [SS.out]; rfl⟩⟩
      exact O1.out.trans2 hO2 (fun x hx => .inr (by rw [List.mem_singleton.1 hx]; exact ND.out))
    | true =>
      simp only [if_true] at CN
      have b2 := OL rfl
      clear OL
      by_cases hf : k = 66
      · have hf' : (k : Int) = 66 := by omega
        have KF := hid hf
        clear hf
        rcases HN with rfl | rfl | rfl
        all_goals
          go_enter Tryz.func161, Tryz.ntmps161
          go_wp2_with fail
          refine (CN.out _).mono ?_
          rintro e w1 ⟨rfl, hO⟩
          have F1 := hid ((mf_new (w.alloc _) _ (0, 0, 0)).only hO (by simp))
          have O1 := hid (((((Only.refl [] w).alloc _).alloc _).trans hO).mono (T := [b]) (by simp))
          have R1 := hid (H.out.only ((((Only.refl [] w).alloc _).alloc _).trans hO) (by simp))
          clear hO CN
          rw [World.size_alloc] at F1
          have DB := hid (show w.heap.size + 1 ∉ [b] by have := H.out.lt; simp; omega)
          have ND := hid (Nat.le_add_right w.heap.size 1)
          generalize w.heap.size + 1 = D at *
          obtain ⟨d0, d1, d2, f0, f1, f2⟩ := F1.out
          go_wp2_with fail
          obtain ⟨⟨e0, e1, e2, _, _, _⟩, hO2⟩ := F1.out.set (0, 0, 0)
          refine bodyPost_ret (v := .tuple #[.agg #[.int .u8 0, .int .i64 0, .int .i64 0], .int .i64 6]) (by simp [results, Tryz.results161, go_sem, e0, e1, e2]) rfl ⟨0, 0, 0, 6, rfl, q1, R1.out.only hO2 (by have := DB.out; simp at this ⊢; omega), ?_, ⟨fun e => absurd e (by decide), fun _ => by rw [SS.out]; simp [KF.out]⟩⟩
          exact O1.out.trans2 hO2 (fun x hx => .inr (by rw [List.mem_singleton.1 hx]; exact ND.out))
      · have hf' : ¬ (k : Int) = 66 := by omega
        have KF := hid hf
        clear hf
        rcases HN with rfl | rfl | rfl
        · go_enter Tryz.func161, Tryz.ntmps161
          go_wp2_with fail
          refine (CN.out _).mono ?_
          rintro e w1 ⟨rfl, hO⟩
          have F1 := hid ((mf_new (w.alloc _) _ (0, 0, 0)).only hO (by simp))
          have O1 := hid (((((Only.refl [] w).alloc _).alloc _).trans hO).mono (T := [b]) (by simp))
          have R1 := hid (H.out.only ((((Only.refl [] w).alloc _).alloc _).trans hO) (by simp))
          clear hO CN
          rw [World.size_alloc] at F1
          have DB := hid (show w.heap.size + 1 ∉ [b] by have := H.out.lt; simp; omega)
          have ND := hid (Nat.le_add_right w.heap.size 1)
          generalize w.heap.size + 1 = D at *
          go_wp2_with fail
          have A1 := hid (af_new w1 200)
          have OE := (Only.refl [] w1).alloc (Obj.cells #[.int .u64 0, .int .u64 0] 200)
          have DE := hid (show D < w1.heap.size from F1.out.lt)
          have F2 := hid (F1.out.only OE (by simp))
          have O2 := hid (O1.out.trans (OE.mono (T := [b]) (by simp)))
          have R2 := hid (R1.out.only OE (by simp))
          have EB := hid (show w1.heap.size ∉ [b] by have := R1.out.lt; simp; omega)
          have EN := hid (show w.heap.size ≤ w1.heap.size from O1.out.size)
          clear F1 O1 R1 OE
          have F1 := F2
          have O1 := O2
          have R1 := R2
          clear F2 O2 R2
          generalize w1.heap.size = E at *
          simp only [show ((k : Int) == 66) = false by simpa using hf']
          go_loopg [25] 0 (fun g t wr => ∃ (i a c q2 : Nat), i + g = 0 ∧ t = .int .i64 i ∧ Rd wr b s q2 ∧ Only [b] w wr ∧ MF wr D (0, 0, 0) ∧ AF wr E a c ∧ ((i = 0 ∧ a = 0 ∧ c = 0 ∧ q1 = q2)))
          case atStart => exact ⟨0, 0, 0, q1, by omega, rfl, R1.out, O1.out, F1.out, A1.out, ⟨rfl, rfl, rfl, rfl⟩⟩
          case round =>
            clear F1 O1 R1 A1
            obtain ⟨i, a, c, q2, hi, rfl, hR, hO, hF, hA, hs⟩ := hrel
            have R1 := hid hR
            have O1 := hid hO
            have F1 := hid hF
            have A1 := hid hA
            have q2b := hR.le
            obtain ⟨g0, g1, h0, h1⟩ := hA
            clear hR hO hF
            obtain ⟨rfl, rfl, rfl, rfl⟩ := hs
            obtain rfl : gk = 0 := by omega
            clear hi
            obtain ⟨d0, d1, d2, f0, f1, f2⟩ := F1.out
            go_wp2_with fail
            obtain ⟨⟨e0, e1, e2, _, _, _⟩, hO2⟩ := F1.out.set ((op : Int), 0, 0)
            refine bodyPost_ret (v := .tuple #[.agg #[.int .u8 op, .int .i64 0, .int .i64 0], .int .i64 0]) (by simp [results, Tryz.results161, go_sem, e0, e1, e2]) rfl ⟨(op : Int), 0, 0, 0, rfl, q1, R1.out.only hO2 (by have := DB.out; simp at this ⊢; omega), ?_, ⟨fun _ => by rw [SS.out]; simp [KF.out, numR], fun e => absurd rfl e⟩⟩
            exact O1.out.trans2 hO2 (fun x hx => .inr (by rw [List.mem_singleton.1 hx]; exact ND.out))
        · go_enter Tryz.func161, Tryz.ntmps161
          go_wp2_with fail
          refine (CN.out _).mono ?_
          rintro e w1 ⟨rfl, hO⟩
          have F1 := hid ((mf_new (w.alloc _) _ (0, 0, 0)).only hO (by simp))
          have O1 := hid (((((Only.refl [] w).alloc _).alloc _).trans hO).mono (T := [b]) (by simp))
          have R1 := hid (H.out.only ((((Only.refl [] w).alloc _).alloc _).trans hO) (by simp))
          clear hO CN
          rw [World.size_alloc] at F1
          have DB := hid (show w.heap.size + 1 ∉ [b] by have := H.out.lt; simp; omega)
          have ND := hid (Nat.le_add_right w.heap.size 1)
          generalize w.heap.size + 1 = D at *
          go_wp2_with fail
          have A1 := hid (af_new w1 200)
          have OE := (Only.refl [] w1).alloc (Obj.cells #[.int .u64 0, .int .u64 0] 200)
          have DE := hid (show D < w1.heap.size from F1.out.lt)
          have F2 := hid (F1.out.only OE (by simp))
          have O2 := hid (O1.out.trans (OE.mono (T := [b]) (by simp)))
          have R2 := hid (R1.out.only OE (by simp))
          have EB := hid (show w1.heap.size ∉ [b] by have := R1.out.lt; simp; omega)
          have EN := hid (show w.heap.size ≤ w1.heap.size from O1.out.size)
          clear F1 O1 R1 OE
          have F1 := F2
          have O1 := O2
          have R1 := R2
          clear F2 O2 R2
          generalize w1.heap.size = E at *
          simp only [show ((k : Int) == 66) = false by simpa using hf']
          go_loopg [25] 1 (fun g t wr => ∃ (i a c q2 : Nat), i + g = 1 ∧ t = .int .i64 i ∧ Rd wr b s q2 ∧ Only [b] w wr ∧ MF wr D (0, 0, 0) ∧ AF wr E a c ∧ ((i = 0 ∧ a = 0 ∧ c = 0 ∧ q1 = q2) ∨ (i = 1 ∧ rdUk s q1 0 = (a, 0, q2) ∧ c = 0)))
          case atStart => exact ⟨0, 0, 0, q1, by omega, rfl, R1.out, O1.out, F1.out, A1.out, .inl ⟨rfl, rfl, rfl, rfl⟩⟩
          case round =>
            clear F1 O1 R1 A1
            obtain ⟨i, a, c, q2, hi, rfl, hR, hO, hF, hA, hs⟩ := hrel
            have R1 := hid hR
            have O1 := hid hO
            have F1 := hid hF
            have A1 := hid hA
            have q2b := hR.le
            obtain ⟨g0, g1, h0, h1⟩ := hA
            clear hR hO hF
            rcases hs with ⟨rfl, rfl, rfl, rfl⟩ | ⟨rfl, hs1, rfl⟩
            · obtain rfl : gk = 1 := by omega
              clear hi
              obtain ⟨v, ev, q3, hv⟩ : ∃ v ev q3, rdUk s q1 0 = (v, ev, q3) := ⟨_, _, _, rfl⟩
              have V := hid hv
              have UC := hid (ue_three b s q1 _ R1.out v ev q3 hv)
              clear hv
              go_wp2_with fail
              refine UC.out.mono ?_
              rintro e w5 ⟨rfl, hR5, hO5⟩
              have F5 := hid (F1.out.only hO5 DB.out)
              have A5 := hid (A1.out.only hO5 EB.out)
              have O5 := hid (O1.out.trans hO5)
              have R5 := hid hR5
              clear hR5 hO5 UC g0 g1 h0 h1 F1 A1 O1 R1
              have F1 := F5
              have O1 := O5
              have R1 := R5
              clear F5 O5 R5
              obtain ⟨d0, d1, d2, f0, f1, f2⟩ := F1.out
              obtain ⟨g0, g1, h0, h1⟩ := A5.out
              have ec := hid (V.out)
              by_cases he : ev = 0
              · subst he
                have A6 := A5.out.set0 v
                have A7 := hid A6.1
                have F7 := hid (F1.out.only A6.2 (by have := DE.out; simp; omega))
                have R7 := hid (R1.out.only A6.2 (by have := EB.out; simp at this ⊢; omega))
                have O7 := hid (O1.out.trans2 A6.2 (fun x hx => .inr (by rw [List.mem_singleton.1 hx]; exact EN.out)))
                clear A6
                go_wp2_with fail
                go_roundg 0
                case measure => omega
                case rel => exact ⟨1, v, 0, q3, by omega, rfl, R7.out, O7.out, F7.out, A7.out, .inr ⟨rfl, V.out, rfl⟩⟩
              · have E0 := hid he
                go_wp2_with fail
                obtain ⟨⟨e0, e1, e2, _, _, _⟩, hO2⟩ := F1.out.set (0, 0, 0)
                refine bodyPost_ret (v := .tuple #[.agg #[.int .u8 0, .int .i64 0, .int .i64 0], .int .i64 ev]) (by simp [results, Tryz.results161, go_sem, e0, e1, e2]) rfl ⟨0, 0, 0, ev, rfl, q3, R1.out.only hO2 (by have := DB.out; simp at this ⊢; omega), ?_, ⟨fun e => absurd e E0.out, fun _ => by rw [SS.out]; simp [KF.out, numR, V.out, E0.out]⟩⟩
                exact O1.out.trans2 hO2 (fun x hx => .inr (by rw [List.mem_singleton.1 hx]; exact ND.out))
            · obtain rfl : gk = 0 := by omega
              clear hi
              have S1 := hid hs1
              have ab := (ue_back Q1.out hs1).1
              have a0 : (0 : Int) ≤ (a : Int) := by omega
              have a1 : (a : Int) ≤ 4294967294 := by omega
              clear hs1 ab
              obtain ⟨d0, d1, d2, f0, f1, f2⟩ := F1.out
              go_wp2_with fail
              obtain ⟨⟨e0, e1, e2, _, _, _⟩, hO2⟩ := F1.out.set ((op : Int), (a : Int), 0)
              refine bodyPost_ret (v := .tuple #[.agg #[.int .u8 op, .int .i64 (a : Int), .int .i64 0], .int .i64 0]) (by simp [results, Tryz.results161, go_sem, e0, e1, e2]) rfl ⟨(op : Int), (a : Int), 0, 0, rfl, q2, R1.out.only hO2 (by have := DB.out; simp at this ⊢; omega), ?_, ⟨fun _ => by rw [SS.out]; simp [KF.out, numR, S1.out], fun e => absurd rfl e⟩⟩
              exact O1.out.trans2 hO2 (fun x hx => .inr (by rw [List.mem_singleton.1 hx]; exact ND.out))
        · go_enter Tryz.func161, Tryz.ntmps161
          go_wp2_with fail
          refine (CN.out _).mono ?_
          rintro e w1 ⟨rfl, hO⟩
          have F1 := hid ((mf_new (w.alloc _) _ (0, 0, 0)).only hO (by simp))
          have O1 := hid (((((Only.refl [] w).alloc _).alloc _).trans hO).mono (T := [b]) (by simp))
          have R1 := hid (H.out.only ((((Only.refl [] w).alloc _).alloc _).trans hO) (by simp))
          clear hO CN
          rw [World.size_alloc] at F1
          have DB := hid (show w.heap.size + 1 ∉ [b] by have := H.out.lt; simp; omega)
          have ND := hid (Nat.le_add_right w.heap.size 1)
          generalize w.heap.size + 1 = D at *
          go_wp2_with fail
          have A1 := hid (af_new w1 200)
          have OE := (Only.refl [] w1).alloc (Obj.cells #[.int .u64 0, .int .u64 0] 200)
          have DE := hid (show D < w1.heap.size from F1.out.lt)
          have F2 := hid (F1.out.only OE (by simp))
          have O2 := hid (O1.out.trans (OE.mono (T := [b]) (by simp)))
          have R2 := hid (R1.out.only OE (by simp))
          have EB := hid (show w1.heap.size ∉ [b] by have := R1.out.lt; simp; omega)
          have EN := hid (show w.heap.size ≤ w1.heap.size from O1.out.size)
          clear F1 O1 R1 OE
          have F1 := F2
          have O1 := O2
          have R1 := R2
          clear F2 O2 R2
          generalize w1.heap.size = E at *
          simp only [show ((k : Int) == 66) = false by simpa using hf']
          go_loopg [25] 2 (fun g t wr => ∃ (i a c q2 : Nat), i + g = 2 ∧ t = .int .i64 i ∧ Rd wr b s q2 ∧ Only [b] w wr ∧ MF wr D (0, 0, 0) ∧ AF wr E a c ∧ ((i = 0 ∧ a = 0 ∧ c = 0 ∧ q1 = q2) ∨ (i = 1 ∧ rdUk s q1 0 = (a, 0, q2) ∧ c = 0) ∨ (i = 2 ∧ ∃ qa, rdUk s q1 0 = (a, 0, qa) ∧ rdUk s qa 0 = (c, 0, q2))))
          case atStart => exact ⟨0, 0, 0, q1, by omega, rfl, R1.out, O1.out, F1.out, A1.out, .inl ⟨rfl, rfl, rfl, rfl⟩⟩
          case round =>
            clear F1 O1 R1 A1
            obtain ⟨i, a, c, q2, hi, rfl, hR, hO, hF, hA, hs⟩ := hrel
            have R1 := hid hR
            have O1 := hid hO
            have F1 := hid hF
            have A1 := hid hA
            have q2b := hR.le
            obtain ⟨g0, g1, h0, h1⟩ := hA
            clear hR hO hF
            rcases hs with ⟨rfl, rfl, rfl, rfl⟩ | ⟨rfl, hs1, rfl⟩ | ⟨rfl, qa, hs1, hs2⟩
            · obtain rfl : gk = 2 := by omega
              clear hi
              obtain ⟨v, ev, q3, hv⟩ : ∃ v ev q3, rdUk s q1 0 = (v, ev, q3) := ⟨_, _, _, rfl⟩
              have V := hid hv
              have UC := hid (ue_three b s q1 _ R1.out v ev q3 hv)
              clear hv
              go_wp2_with fail
              refine UC.out.mono ?_
              rintro e w5 ⟨rfl, hR5, hO5⟩
              have F5 := hid (F1.out.only hO5 DB.out)
              have A5 := hid (A1.out.only hO5 EB.out)
              have O5 := hid (O1.out.trans hO5)
              have R5 := hid hR5
              clear hR5 hO5 UC g0 g1 h0 h1 F1 A1 O1 R1
              have F1 := F5
              have O1 := O5
              have R1 := R5
              clear F5 O5 R5
              obtain ⟨d0, d1, d2, f0, f1, f2⟩ := F1.out
              obtain ⟨g0, g1, h0, h1⟩ := A5.out
              have ec := hid (V.out)
              by_cases he : ev = 0
              · subst he
                have A6 := A5.out.set0 v
                have A7 := hid A6.1
                have F7 := hid (F1.out.only A6.2 (by have := DE.out; simp; omega))
                have R7 := hid (R1.out.only A6.2 (by have := EB.out; simp at this ⊢; omega))
                have O7 := hid (O1.out.trans2 A6.2 (fun x hx => .inr (by rw [List.mem_singleton.1 hx]; exact EN.out)))
                clear A6
                go_wp2_with fail
                go_roundg 1
                case measure => omega
                case rel => exact ⟨1, v, 0, q3, by omega, rfl, R7.out, O7.out, F7.out, A7.out, .inr (.inl ⟨rfl, V.out, rfl⟩)⟩
              · have E0 := hid he
                go_wp2_with fail
                obtain ⟨⟨e0, e1, e2, _, _, _⟩, hO2⟩ := F1.out.set (0, 0, 0)
                refine bodyPost_ret (v := .tuple #[.agg #[.int .u8 0, .int .i64 0, .int .i64 0], .int .i64 ev]) (by simp [results, Tryz.results161, go_sem, e0, e1, e2]) rfl ⟨0, 0, 0, ev, rfl, q3, R1.out.only hO2 (by have := DB.out; simp at this ⊢; omega), ?_, ⟨fun e => absurd e E0.out, fun _ => by rw [SS.out]; simp [KF.out, numR, V.out, E0.out]⟩⟩
                exact O1.out.trans2 hO2 (fun x hx => .inr (by rw [List.mem_singleton.1 hx]; exact ND.out))
            · obtain rfl : gk = 1 := by omega
              clear hi
              have S1 := hid hs1
              clear hs1
              obtain ⟨v, ev, q3, hv⟩ : ∃ v ev q3, rdUk s q2 0 = (v, ev, q3) := ⟨_, _, _, rfl⟩
              have V := hid hv
              have UC := hid (ue_three b s q2 _ R1.out v ev q3 hv)
              clear hv
              go_wp2_with fail
              refine UC.out.mono ?_
              rintro e w5 ⟨rfl, hR5, hO5⟩
              have F5 := hid (F1.out.only hO5 DB.out)
              have A5 := hid (A1.out.only hO5 EB.out)
              have O5 := hid (O1.out.trans hO5)
              have R5 := hid hR5
              clear hR5 hO5 UC g0 g1 h0 h1 F1 A1 O1 R1
              have F1 := F5
              have O1 := O5
              have R1 := R5
              clear F5 O5 R5
              obtain ⟨d0, d1, d2, f0, f1, f2⟩ := F1.out
              obtain ⟨g0, g1, h0, h1⟩ := A5.out
              have ec := hid (V.out)
              by_cases he : ev = 0
              · subst he
                have A6 := A5.out.set1 v
                have A7 := hid A6.1
                have F7 := hid (F1.out.only A6.2 (by have := DE.out; simp; omega))
                have R7 := hid (R1.out.only A6.2 (by have := EB.out; simp at this ⊢; omega))
                have O7 := hid (O1.out.trans2 A6.2 (fun x hx => .inr (by rw [List.mem_singleton.1 hx]; exact EN.out)))
                clear A6
                go_wp2_with fail
                go_roundg 0
                case measure => omega
                case rel => exact ⟨2, a, v, q3, by omega, rfl, R7.out, O7.out, F7.out, A7.out, .inr (.inr ⟨rfl, q2, S1.out, V.out⟩)⟩
              · have E0 := hid he
                go_wp2_with fail
                obtain ⟨⟨e0, e1, e2, _, _, _⟩, hO2⟩ := F1.out.set (0, 0, 0)
                refine bodyPost_ret (v := .tuple #[.agg #[.int .u8 0, .int .i64 0, .int .i64 0], .int .i64 ev]) (by simp [results, Tryz.results161, go_sem, e0, e1, e2]) rfl ⟨0, 0, 0, ev, rfl, q3, R1.out.only hO2 (by have := DB.out; simp at this ⊢; omega), ?_, ⟨fun e => absurd e E0.out, fun _ => by rw [SS.out]; simp [KF.out, numR, S1.out, V.out, E0.out]⟩⟩
                exact O1.out.trans2 hO2 (fun x hx => .inr (by rw [List.mem_singleton.1 hx]; exact ND.out))
            · obtain rfl : gk = 0 := by omega
              clear hi
              have S1 := hid hs1
              have ab := (ue_back Q1.out hs1).1
              have a0 : (0 : Int) ≤ (a : Int) := by omega
              have a1 : (a : Int) ≤ 4294967294 := by omega
              clear hs1 ab
              have S2 := hid hs2
              have cb := (ue_back (by have := (ue_back Q1.out S1.out); have := this.2.1.1; omega) hs2).1
              have c0 : (0 : Int) ≤ (c : Int) := by omega
              have c1 : (c : Int) ≤ 4294967294 := by omega
              clear hs2 cb
              obtain ⟨d0, d1, d2, f0, f1, f2⟩ := F1.out
              go_wp2_with fail
              obtain ⟨⟨e0, e1, e2, _, _, _⟩, hO2⟩ := F1.out.set ((op : Int), (a : Int), (c : Int))
              refine bodyPost_ret (v := .tuple #[.agg #[.int .u8 op, .int .i64 (a : Int), .int .i64 (c : Int)], .int .i64 0]) (by simp [results, Tryz.results161, go_sem, e0, e1, e2]) rfl ⟨(op : Int), (a : Int), (c : Int), 0, rfl, q2, R1.out.only hO2 (by have := DB.out; simp at this ⊢; omega), ?_, ⟨fun _ => by rw [SS.out]; simp [KF.out, numR, S1.out, S2.out], fun e => absurd rfl e⟩⟩
              exact O1.out.trans2 hO2 (fun x hx => .inr (by rw [List.mem_singleton.1 hx]; exact ND.out))
end Go.Proofs.YtjjjfmnhdnajkaaGreatDoor

end
