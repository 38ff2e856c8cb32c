/- From what the rows list to the two variables' cells. -/
import Derived.Test.YtdkmeldcpamnnaaDoorMpA
import Derived.Lib.LaidU8
import Derived.ChangeSame
namespace Go.Proofs.YtdkmeldcpamnnaaDoor
open Go.RowKit
set_option linter.unusedVariables false

theorem und_kind : ∃ f0 f1 : Field, Tryd.prog.underlying 86 = some (.struct #[f0, f1]) ∧ f0.type = 30 ∧ f0.offset = 0 ∧ f1.type = 84 ∧ f1.offset = 1 := ⟨_, _, Tryd.underlying86, rfl, rfl, rfl, rfl⟩
/-- One variable's cells. -/
theorem cells_of_kind {W : World} {n : String} {e : Int} {zs : List Int} {g : Nat} (hg : Tryd.prog.globalNamed n = some g) (ht : (Tryd.prog.globals[g]?).map (·.type) = some 86)
    (h : Lib.VarReads Tryd.prog W n (.agg [.lit (.int .u64 e), Lib.tabData .i64 zs])) (hz : zs.length = 7) : ∀ (j : Nat) (v : Value), (Value.int .u64 e :: zs.map fun z => Value.int .i64 z)[j]? = some v → W.cell? ⟨g, j, none⟩ = some v := by
  obtain ⟨g', t', cs, fuel, p, hg', ht', hvar, hd⟩ := h
  obtain rfl := Option.some.inj (hg.symm.trans hg')
  obtain rfl := Option.some.inj (ht.symm.trans ht')
  obtain ⟨f0, f1, hu, t0, o0, t1, o1⟩ := und_kind
  obtain ⟨y0, y1, m, hy, hl, h0, h1⟩ := Go.ChangeShapes.trod_struct2 hu hd
  rw [t0, o0] at h0
  rw [t1, o1] at h1
  clear hu
  obtain ⟨z0, c0, e0, _⟩ := DataW.trod_int (k := .u64) (by kernel_rfl) h0
  have e1 : y1.1 = Lib.tabData .i64 zs := by
    have := congrArg Prod.fst hy
    simp only [DataW.agg.injEq, List.cons.injEq, and_true] at this
    exact this.2.symm
  have e2 : y0.1 = DataW.lit (.int .u64 e) := by
    have := congrArg Prod.fst hy
    simp only [DataW.agg.injEq, List.cons.injEq, and_true] at this
    exact this.1.symm
  have e3 : z0 = e := by
    rw [e0] at e2
    simpa using e2
  subst e3
  obtain ⟨d1, q1⟩ := y1
  simp only at e1
  subst e1
  have c1 := Lib.cells_of_tab (k := .i64) (n := 7) (e := 3) (by kernel_rfl) (by kernel_rfl) (by kernel_rfl) (by kernel_rfl) h1
  rw [show Tryd.prog.cellsOf 86 = 8 by kernel_rfl] at hl
  rw [show Tryd.prog.cellsOf 30 = 1 by kernel_rfl] at c0
  rw [show Tryd.prog.cellsOf 84 = 7 by kernel_rfl] at c1
  have hall : cs.toList = Value.int .u64 z0 :: zs.map fun z => Value.int .i64 z := by
    rw [List.drop_zero] at c0
    clear hd hvar
    generalize cs.toList = L at *
    cases L with
    | nil => cases hl
    | cons a r =>
      simp only [List.take_succ_cons, List.take_zero, List.cons.injEq, and_true] at c0
      subst c0
      simp only [List.length_cons] at hl
      rw [List.drop_succ_cons, List.drop_zero, List.take_of_length_le (by omega)] at c1
      rw [c1]
  intro j v hj
  rw [World.var?_cell hg hvar j, ← hall] at *
  simpa using hj
theorem vars_of {W : World} (h : laidMet Tryd.prog [("spindle/marks.modifications", .agg [.lit (.int .u64 3), Lib.tabData .i64 [1, 1, 1, -1, -1, -1, -1]]), ("spindle/marks.markings", .agg [.lit (.int .u64 0), Lib.tabData .i64 [-1, 1, 1, 2, 1, 0, 1]])] W) : Vars W := by
  intro m j v hj
  cases m with
  | false => exact cells_of_kind (by kernel_rfl) (by kernel_rfl) (Lib.laidMet.reads h (.head _)) rfl j v (by simpa [kindC] using hj)
  | true => exact cells_of_kind (by kernel_rfl) (by kernel_rfl) (Lib.laidMet.reads h (.tail _ (.head _))) rfl j v (by simpa [kindC] using hj)
end Go.Proofs.YtdkmeldcpamnnaaDoor
