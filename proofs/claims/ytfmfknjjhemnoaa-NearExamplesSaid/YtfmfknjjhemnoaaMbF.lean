/- The kit's EqualMb. -/
import Derived.Test.YtfmfknjjhemnoaaMbE
import Derived.ChangeKeysEq
namespace Go.Proofs.Ytfmfknjjhemnoaa
open Go.RowKit
set_option linter.unusedVariables false
set_option linter.unusedSimpArgs false

/-- A struct that comes in is boxed. -/
theorem wp_box {P : Program} {w W' : World} {ops : Array Oper} {rest : List Oper} {o : Oper} {a : Act} {Q : Exit → Act → World → Prop} {k : Nat} (hg : o.guard = none) (t : TypeId) (x : Operand) (ho : o.op = .box t x) (cs : Array Value)
    (hx : a.eval x = .agg cs) (hW : W' = w.alloc (.cells cs t)) (hk : k = w.heap.size) (h : wpList P ops Q rest (a.put o.dst (.pointer (some ⟨k, 0, none⟩))) W') : wpList P ops Q (o :: rest) a w := by
  subst hW hk
  refine wpList_plain hg fun K hK => ?_
  unfold Oper.wp execOp
  simp only [ho, hx]
  have hc : (Value.agg cs).cells = cs := by simp [Value.cells]
  simp [Result.andThen, hc]
  exact hK _ _ h
/-- One cell is loaded, where a guard lets it. -/
theorem wp_load_cell {P : Program} {w : World} {ops : Array Oper} {rest : List Oper} {o : Oper} {a : Act} {Q : Exit → Act → World → Prop} (hg : Region.wanted o (yielded ops a.tmps) = true) (t : TypeId) (x : Operand) (ho : o.op = .load t x) (p : Addr) (v : Value)
    (hx : a.eval x = .pointer (some p)) (hl : (Instr.loadAt t (.pointer (some p))).run P w = .ok v w)
    (h : wpList P ops Q rest (a.put o.dst v) w) : wpList P ops Q (o :: rest) a w := by
  refine wpList_step fun K hK => ?_
  rw [if_pos hg]
  unfold Oper.wp execOp
  simp only [ho, hx]
  simp [hl, Result.andThen]
  exact hK _ _ (by simpa using h)
/-- Two values are compared, by what the comparison answers. -/
theorem wp_bin_eq {P : Program} {w : World} {ops : Array Oper} {rest : List Oper} {o : Oper} {a : Act} {Q : Exit → Act → World → Prop} (hg : Region.wanted o (yielded ops a.tmps) = true) (b : BinOp) (s : TypeId) (x y : Operand) (t : TypeId) (ho : o.op = .binOp b s x y t) (u v z : Value)
    (hx : a.eval x = u) (hy : a.eval y = v) (hq : (eqGuard b s x y u v).run P w = .ok () w) (hr : (binOp b s u v).run P w = .ok z w)
    (h : wpList P ops Q rest (a.put o.dst z) w) : wpList P ops Q (o :: rest) a w := by
  refine wpList_step fun K hK => ?_
  rw [if_pos hg]
  unfold Oper.wp execOp
  simp only [ho, hx, hy]
  simp [hq, hr, Result.andThen]
  exact hK _ _ h
theorem eqg_p16 (x y : Operand) (a b : Array Value) (w : World) : (eqGuard .eql 34 x y (.agg a) (.agg b)).run Try.prog w = .ok () w := by kernel_rfl
theorem eqg_s4 (x y : Operand) (a b : Array Value) (w : World) : (eqGuard .eql 35 x y (.agg a) (.agg b)).run Try.prog w = .ok () w := by kernel_rfl
theorem ho_p16 {w : World} {k off : Nat} {x : P16} (hc : ∀ j v, (prC x)[j]? = some v → w.cell? ⟨k, off + j, none⟩ = some v) : (Instr.loadAt 34 (.pointer (some ⟨k, off, none⟩))).run Try.prog w = .ok (.agg (prC x).toArray) w := by
  have hl := run_loadCells_list (P := Try.prog) w ⟨k, off, none⟩ (prC x) (fun j v hj => by rw [add_off]; exact hc j v hj)
  rw [show (prC x).length = 16 from rfl] at hl
  simp only [Instr.loadAt, Instr.sureAddr, Sem.run_bind, Sem.run_pure, Result.andThen_ok, loadVar]
  simp [hl]
theorem ho_s4 {w : World} {k off : Nat} {x : S4} (hc : ∀ j v, (sbC x)[j]? = some v → w.cell? ⟨k, off + j, none⟩ = some v) : (Instr.loadAt 35 (.pointer (some ⟨k, off, none⟩))).run Try.prog w = .ok (.agg (sbC x).toArray) w := by
  have hl := run_loadCells_list (P := Try.prog) w ⟨k, off, none⟩ (sbC x) (fun j v hj => by rw [add_off]; exact hc j v hj)
  rw [show (sbC x).length = 4 from rfl] at hl
  simp only [Instr.loadAt, Instr.sureAddr, Sem.run_bind, Sem.run_pure, Result.andThen_ok, loadVar]
  simp [hl]
theorem mC_pr (x : MV) (rv vv bv : Value) : ∀ j v, (prC x.pr)[j]? = some v → (mC x rv vv bv)[3 + j]? = some v := by
  intro j v h
  have hj : j < 16 := (List.getElem?_eq_some_iff.1 h).1
  obtain rfl | rfl | rfl | rfl | rfl | rfl | rfl | rfl | rfl | rfl | rfl | rfl | rfl | rfl | rfl | rfl : j = 0 ∨ j = 1 ∨ j = 2 ∨ j = 3 ∨ j = 4 ∨ j = 5 ∨ j = 6 ∨ j = 7 ∨ j = 8 ∨ j = 9 ∨ j = 10 ∨ j = 11 ∨ j = 12 ∨ j = 13 ∨ j = 14 ∨ j = 15 := by omega
  all_goals exact h
theorem mC_sb (x : MV) (rv vv bv : Value) : ∀ j v, (sbC x.sb)[j]? = some v → (mC x rv vv bv)[19 + j]? = some v := by
  intro j v h
  have hj : j < 4 := (List.getElem?_eq_some_iff.1 h).1
  obtain rfl | rfl | rfl | rfl : j = 0 ∨ j = 1 ∨ j = 2 ∨ j = 3 := by omega
  all_goals exact h
theorem Blk.pr {w : World} {k : Nat} {T : TypeId} {x : MV} {rv vv bv : Value} (h : Blk w k T (mC x rv vv bv).toArray) : (Instr.loadAt 34 (.pointer (some ⟨k, 3, none⟩))).run Try.prog w = .ok (.agg (prC x.pr).toArray) w :=
  ho_p16 (fun j v hj => h.cell (by simpa using mC_pr x rv vv bv j v hj))
theorem Blk.sb {w : World} {k : Nat} {T : TypeId} {x : MV} {rv vv bv : Value} (h : Blk w k T (mC x rv vv bv).toArray) : (Instr.loadAt 35 (.pointer (some ⟨k, 19, none⟩))).run Try.prog w = .ok (.agg (sbC x.sb).toArray) w :=
  ho_s4 (fun j v hj => h.cell (by simpa using mC_sb x rv vv bv j v hj))
theorem eqItems_u8 (xs ys : Array Value) (f g : Nat → Int) (d : Nat) (w : World) : ∀ is : List Nat, (∀ i, i ∈ is → xs[i]? = some (.int .u8 (f i))) → (∀ i, i ∈ is → ys[i]? = some (.int .u8 (g i))) →
    (Op.eqItems (d + 1) 5 1 xs ys is).run Try.prog w = .ok (decide (∀ i, i ∈ is → f i = g i)) w := by
  have he : Try.prog.plainKey 5 = true := by kernel_rfl
  have hu : Try.prog.underlying 5 = some (.int .u8) := by kernel_rfl
  intro is
  induction is with
  | nil => intro _ _; simp [Op.eqItems]
  | cons i is ih =>
    intro hx hy
    have p1 := run_part_plain (P := Try.prog) w he (xs := xs) (off := i * 1) (by rw [Nat.mul_one]; exact hx i (by simp))
    have p2 := run_part_plain (P := Try.prog) w he (xs := ys) (off := i * 1) (by rw [Nat.mul_one]; exact hy i (by simp))
    have p3 := run_equalIn_int (P := Try.prog) w d 5 .u8 .u8 (f i) (g i) hu
    have ih' := ih (fun j hj => hx j (List.mem_cons_of_mem _ hj)) (fun j hj => hy j (List.mem_cons_of_mem _ hj))
    simp only [Op.eqItems, Sem.run_bind, p1, p2, p3, Result.andThen_ok]
    by_cases e : f i = g i
    · have e1 : (f i == g i) = true := by simpa using e
      rw [e1]
      simp only [Bool.not_true, Bool.false_eq_true, if_false]
      rw [ih']
      congr 1
      rw [decide_eq_decide]
      exact ⟨fun h j hj => (List.mem_cons.1 hj).elim (fun q => q ▸ e) (h j), fun h j hj => h j (List.mem_cons_of_mem _ hj)⟩
    · have e1 : (f i == g i) = false := by simpa using e
      rw [e1]
      simp only [Bool.not_false, if_true, Sem.run_pure]
      congr 1
      rw [eq_comm, decide_eq_false_iff_not]
      exact fun h => e (h i (by simp))
theorem cells_u8m : Try.prog.cellsOf 5 = 1 := by kernel_rfl
theorem und_p16 : Try.prog.underlying 34 = some (.array 16 5) := by kernel_rfl
theorem und_s4 : Try.prog.underlying 35 = some (.array 4 5) := by kernel_rfl
theorem info_u8m : ∃ i, Try.prog.info? 5 = some i := by
  have h : (Try.prog.info? 5).isSome = true := by kernel_rfl
  exact Option.isSome_iff_exists.1 h
theorem getC {l : List Int} (i : Nat) (h : i < l.length) : ((l.map (Value.int .u8)).toArray)[i]? = some (.int .u8 (l.getD i 0)) := by
  simp [List.getD_eq_getElem?_getD, List.getElem?_eq_getElem h]
theorem all_p16 (x y : P16) : (∀ i, i ∈ List.range 16 → x.l.getD i 0 = y.l.getD i 0) ↔ x = y := by
  constructor
  · intro h
    have k := fun i (hi : i < 16) => h i (List.mem_range.2 hi)
    exact P16.ext (k 0 (by omega)) (k 1 (by omega)) (k 2 (by omega)) (k 3 (by omega)) (k 4 (by omega)) (k 5 (by omega)) (k 6 (by omega)) (k 7 (by omega)) (k 8 (by omega)) (k 9 (by omega)) (k 10 (by omega)) (k 11 (by omega)) (k 12 (by omega)) (k 13 (by omega)) (k 14 (by omega)) (k 15 (by omega))
  · rintro rfl i _; rfl
theorem all_s4 (x y : S4) : (∀ i, i ∈ List.range 4 → x.l.getD i 0 = y.l.getD i 0) ↔ x = y := by
  constructor
  · intro h
    have k := fun i (hi : i < 4) => h i (List.mem_range.2 hi)
    exact S4.ext (k 0 (by omega)) (k 1 (by omega)) (k 2 (by omega)) (k 3 (by omega))
  · rintro rfl i _; rfl
theorem eql_p16 (x y : P16) (w : World) : (binOp .eql 34 (.agg (prC x).toArray) (.agg (prC y).toArray)).run Try.prog w = .ok (.bool (decide (x = y))) w := by
  obtain ⟨i0, hi0⟩ := info_u8m
  have h := run_equalIn_array (P := Try.prog) (w := w) 9999 (prC x).toArray (prC y).toArray und_p16 hi0
  rw [cells_u8m] at h
  replace h := h.trans (eqItems_u8 (prC x).toArray (prC y).toArray (fun i => x.l.getD i 0) (fun i => y.l.getD i 0) 9998 w (List.range 16) (fun i hi => getC (l := x.l) i (List.mem_range.1 hi)) (fun i hi => getC (l := y.l) i (List.mem_range.1 hi)))
  have e : decide (∀ i, i ∈ List.range 16 → x.l.getD i 0 = y.l.getD i 0) = decide (x = y) := by rw [decide_eq_decide]; exact all_p16 x y
  rw [e] at h
  have h' : (Op.equal 34 (.agg (prC x).toArray) (.agg (prC y).toArray)).run Try.prog w = .ok (decide (x = y)) w := h
  simp only [binOp, Sem.run_bind]
  go_simp
theorem eql_s4 (x y : S4) (w : World) : (binOp .eql 35 (.agg (sbC x).toArray) (.agg (sbC y).toArray)).run Try.prog w = .ok (.bool (decide (x = y))) w := by
  obtain ⟨i0, hi0⟩ := info_u8m
  have h := run_equalIn_array (P := Try.prog) (w := w) 9999 (sbC x).toArray (sbC y).toArray und_s4 hi0
  rw [cells_u8m] at h
  replace h := h.trans (eqItems_u8 (sbC x).toArray (sbC y).toArray (fun i => x.l.getD i 0) (fun i => y.l.getD i 0) 9998 w (List.range 4) (fun i hi => getC (l := x.l) i (List.mem_range.1 hi)) (fun i hi => getC (l := y.l) i (List.mem_range.1 hi)))
  have e : decide (∀ i, i ∈ List.range 4 → x.l.getD i 0 = y.l.getD i 0) = decide (x = y) := by rw [decide_eq_decide]; exact all_s4 x y
  rw [e] at h
  have h' : (Op.equal 35 (.agg (sbC x).toArray) (.agg (sbC y).toArray)).run Try.prog w = .ok (decide (x = y)) w := h
  simp only [binOp, Sem.run_bind]
  go_simp
end Go.Proofs.Ytfmfknjjhemnoaa
