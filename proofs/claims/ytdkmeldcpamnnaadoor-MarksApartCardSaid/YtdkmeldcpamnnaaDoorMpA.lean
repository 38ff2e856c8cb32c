/- The two kinds of lists, as the program's values and in memory; how many numbers a command has. -/
import Derived.Test.YtdkmeldcpamnnaaDoorRows
import Derived.Test.YtdkmeldcpamnnaaDoorMs
import Derived.Test.YtdkmeldcpamnnaaDoorRMc
import Derived.Test.YtdkmeldcpamnnaaDoorQuiet
import Derived.Lib.LaidU8
import Derived.ChangeSame
namespace Go.Proofs.YtdkmeldcpamnnaaDoor
open Go.RowKit
set_option linter.unusedVariables false

/-- A kind of lists: eight cells. -/
def kindC : Bool → Array Value
  | false => #[.int .u64 3, .int .i64 1, .int .i64 1, .int .i64 1, .int .i64 (-1), .int .i64 (-1), .int .i64 (-1), .int .i64 (-1)]
  | true => #[.int .u64 0, .int .i64 (-1), .int .i64 1, .int .i64 1, .int .i64 2, .int .i64 1, .int .i64 0, .int .i64 1]
def kindV (m : Bool) : Value := .agg (kindC m)
/-- How many numbers the command has; -1: there is none. -/
def cntI (m : Bool) (op : Int) : Int := if (hasI m op).2 = true then (hasI m op).1 else -1

set_option maxHeartbeats 2000000 in
theorem count_any (m : Bool) (op : Int) (h0 : 0 ≤ op) (w : World) : Calls Tryd.prog 58 #[kindV m, .int .u64 op] w fun e w' => e = .returned (.int .i64 (cntI m op)) ∧ Only [] w w' := by
  by_cases h7 : op < 7
  · have : op = 0 ∨ op = 1 ∨ op = 2 ∨ op = 3 ∨ op = 4 ∨ op = 5 ∨ op = 6 := by omega
    clear h0 h7
    cases m
    all_goals
      rcases this with rfl | rfl | rfl | rfl | rfl | rfl | rfl
      all_goals
        simp only [kindV, kindC]
        go_enter Tryd.func58, Tryd.ntmps58
        go_wp2_with fail
        go_ret
        exact ⟨rfl, (Only.refl _ _).alloc _⟩
  · have h7' : (7 : Int) ≤ op := by omega
    rw [show cntI m op = -1 from by
      unfold cntI
      rw [if_neg]
      intro h
      have := hasI_le h
      omega]
    clear h7
    cases m
    all_goals
      simp only [kindV, kindC]
      go_enter Tryd.func58, Tryd.ntmps58
      go_wp2_with fail
      go_ret
      exact ⟨rfl, (Only.refl _ _).alloc _⟩

/-- Where a kind lies: the package's two variables. -/
def kindG : Bool → Nat
  | false => 0
  | true => 1
/-- The two variables hold what the program's text lays. -/
def Vars (w : World) : Prop := ∀ (m : Bool) (j : Nat) (v : Value), (kindC m)[j]? = some v → w.cell? ⟨kindG m, j, none⟩ = some v
theorem Vars.first {w : World} (h : Vars w) (m : Bool) : w.cell? ⟨kindG m, 0, none⟩ = some (.int .u64 (endN m : Nat)) := h m 0 _ (by cases m <;> rfl)
theorem Vars.only {S : List Nat} {w w' : World} (h : Vars w) (k : Only S w w') (hS : ∀ m, kindG m ∉ S) : Vars w' := fun m j v hj => k.cell (h m j v hj) (hS m)
theorem Vars.only0 {w w' : World} (h : Vars w) (k : Only [] w w') : Vars w' := h.only k (fun _ => by simp)
theorem Vars.lt {w : World} (h : Vars w) (m : Bool) : kindG m < w.heap.size := World.block_lt_of_cell? _ _ (h.first m)
/-- What lies in blocks that are new to a world with the variables. -/
theorem Vars.new {S : List Nat} {w w' w0 : World} (h : Vars w) (h0 : Vars w0) (k : Only S w w') (hS : ∀ b, b ∈ S → w0.heap.size ≤ b) : Vars w' := h.only k (fun m hm => by have := hS _ hm; have := h0.lt m; omega)
theorem Vars.rd {w w' : World} {b : Nat} {s : ByteArray} {pos : Nat} (h : Vars w) (hr : Rd w b s pos) (k : Only [b] w w') : Vars w' := h.only k (fun m hm => by
  have e : kindG m = b := by simpa using hm
  have := h.first m
  rw [e, hr.hs] at this
  cases this)
theorem Vars.drewN {w : World} (h : Vars w) (n : Nat) : Vars (w.drewN n) := h
end Go.Proofs.YtdkmeldcpamnnaaDoor
namespace Go.Proofs.YtdkmeldcpamnnaaDoor
open Go.RowKit
set_option linter.unusedVariables false

theorem und_kind : ∃ f0 f1 : Field, Tryd.prog.underlying 86 = some (.struct #[f0, f1]) ∧ f0.type = 30 ∧ f0.offset = 0 ∧ f1.type = 84 ∧ f1.offset = 1 := ⟨_, _, Tryd.underlying86, rfl, rfl, rfl, rfl⟩
/-- One variable's cells. -/
theorem cells_of_kind {W : World} {n : String} {e : Int} {zs : List Int} {g : Nat} (hg : Tryd.prog.globalNamed n = some g) (ht : (Tryd.prog.globals[g]?).map (·.type) = some 86)
    (h : Lib.VarReads Tryd.prog W n (.agg [.lit (.int .u64 e), Lib.tabData .i64 zs])) (hz : zs.length = 7) : ∀ (j : Nat) (v : Value), (Value.int .u64 e :: zs.map fun z => Value.int .i64 z)[j]? = some v → W.cell? ⟨g, j, none⟩ = some v := by
  obtain ⟨g', t', cs, fuel, p, hg', ht', hvar, hd⟩ := h
  obtain rfl := Option.some.inj (hg.symm.trans hg')
  obtain rfl := Option.some.inj (ht.symm.trans ht')
  obtain ⟨f0, f1, hu, t0, o0, t1, o1⟩ := und_kind
  obtain ⟨y0, y1, m, hy, hl, h0, h1⟩ := Go.ChangeShapes.trod_struct2 hu hd
  rw [t0, o0] at h0
  rw [t1, o1] at h1
  clear hu
  obtain ⟨z0, c0, e0, _⟩ := DataW.trod_int (k := .u64) (by kernel_rfl) h0
  have e1 : y1.1 = Lib.tabData .i64 zs := by
    have := congrArg Prod.fst hy
    simp only [DataW.agg.injEq, List.cons.injEq, and_true] at this
    exact this.2.symm
  have e2 : y0.1 = DataW.lit (.int .u64 e) := by
    have := congrArg Prod.fst hy
    simp only [DataW.agg.injEq, List.cons.injEq, and_true] at this
    exact this.1.symm
  have e3 : z0 = e := by
    rw [e0] at e2
    simpa using e2
  subst e3
  obtain ⟨d1, q1⟩ := y1
  simp only at e1
  subst e1
  have c1 := Lib.cells_of_tab (k := .i64) (n := 7) (e := 3) (by kernel_rfl) (by kernel_rfl) (by kernel_rfl) (by kernel_rfl) h1
  rw [show Tryd.prog.cellsOf 86 = 8 by kernel_rfl] at hl
  rw [show Tryd.prog.cellsOf 30 = 1 by kernel_rfl] at c0
  rw [show Tryd.prog.cellsOf 84 = 7 by kernel_rfl] at c1
  have hall : cs.toList = Value.int .u64 z0 :: zs.map fun z => Value.int .i64 z := by
    rw [List.drop_zero] at c0
    clear hd hvar
    generalize cs.toList = L at *
    cases L with
    | nil => cases hl
    | cons a r =>
      simp only [List.take_succ_cons, List.take_zero, List.cons.injEq, and_true] at c0
      subst c0
      simp only [List.length_cons] at hl
      rw [List.drop_succ_cons, List.drop_zero, List.take_of_length_le (by omega)] at c1
      rw [c1]
  intro j v hj
  rw [World.var?_cell hg hvar j, ← hall] at *
  simpa using hj
theorem vars_of {W : World} (h : laidMet Tryd.prog [("spindle/marks.modifications", .agg [.lit (.int .u64 3), Lib.tabData .i64 [1, 1, 1, -1, -1, -1, -1]]), ("spindle/marks.markings", .agg [.lit (.int .u64 0), Lib.tabData .i64 [-1, 1, 1, 2, 1, 0, 1]])] W) : Vars W := by
  intro m j v hj
  cases m with
  | false => exact cells_of_kind (by kernel_rfl) (by kernel_rfl) (Lib.laidMet.reads h (.head _)) rfl j v (by simpa [kindC] using hj)
  | true => exact cells_of_kind (by kernel_rfl) (by kernel_rfl) (Lib.laidMet.reads h (.tail _ (.head _))) rfl j v (by simpa [kindC] using hj)
end Go.Proofs.YtdkmeldcpamnnaaDoor
