/- Parameter sets that are stored, cell by cell. -/
import Derived.Test.YtjjjfmnhdnajkaaGreatDoorSeE
import Derived.Laws.IdiomCopy
namespace Go.Proofs.YtjjjfmnhdnajkaaGreatDoor
open Go.RowKit Go.Maps
set_option linter.unusedVariables false

/-- A parameter set is stored, cell by cell. -/
def setP (w : World) (A o : Nat) (x : PV) : World :=
  ((((((((((w.setCell ⟨A, o, none⟩ (.int .i64 x.id)).setCell ⟨A, o + 1, none⟩ (.int .i64 x.sps)).setCell ⟨A, o + 2, none⟩ (.bool x.cab)).setCell ⟨A, o + 3, none⟩ (.int .i64 x.rf)).setCell ⟨A, o + 4, none⟩ (.int .i64 x.r1)).setCell ⟨A, o + 5, none⟩ (.int .i64 x.qp)).setCell ⟨A, o + 6, none⟩ (.int .i64 x.qs)).setCell ⟨A, o + 7, none⟩ (.int .i64 x.ch)).setCell ⟨A, o + 8, none⟩ (.bool x.db)).setCell ⟨A, o + 9, none⟩ (.bool x.nt))
theorem setP_far {w : World} {A o : Nat} {x : PV} {B c : Nat} (h : B ≠ A ∨ c < o ∨ o + 10 ≤ c) : (setP w A o x).cell? ⟨B, c, none⟩ = w.cell? ⟨B, c, none⟩ := by
  unfold setP
  rw [World.cell?_setCell_other _ _ _ _ (by intro e; injection e; omega), World.cell?_setCell_other _ _ _ _ (by intro e; injection e; omega), World.cell?_setCell_other _ _ _ _ (by intro e; injection e; omega), World.cell?_setCell_other _ _ _ _ (by intro e; injection e; omega), World.cell?_setCell_other _ _ _ _ (by intro e; injection e; omega), World.cell?_setCell_other _ _ _ _ (by intro e; injection e; omega), World.cell?_setCell_other _ _ _ _ (by intro e; injection e; omega), World.cell?_setCell_other _ _ _ _ (by intro e; injection e; omega), World.cell?_setCell_other _ _ _ _ (by intro e; injection e; omega), World.cell?_setCell_other _ _ _ _ (by intro e; injection e; omega)]
theorem setP_frozen {w : World} {A o : Nat} {x : PV} (a : Addr) : (setP w A o x).frozen? a = w.frozen? a := by
  unfold setP
  simp
theorem setP_size {w : World} {A o : Nat} {x : PV} : (setP w A o x).heap.size = w.heap.size := by
  unfold setP
  simp
theorem setP_only {w w0 : World} {A o : Nat} {x : PV} {S : List Nat} (h : Only S w0 w) (hA : A ∈ S ∨ w0.heap.size ≤ A) : Only S w0 (setP w A o x) := by
  unfold setP
  exact h |>.setCell hA _ |>.setCell hA _ |>.setCell hA _ |>.setCell hA _ |>.setCell hA _ |>.setCell hA _ |>.setCell hA _ |>.setCell hA _ |>.setCell hA _ |>.setCell hA _
theorem setP_at {w : World} {A o : Nat} {x y : PV} (h : PAt w A o y) : PAt (setP w A o x) A o x := by
  unfold setP
  refine ⟨?_, ?_, ?_, ?_, ?_, ?_, ?_, ?_, ?_, ?_⟩
  · rw [World.cell?_setCell_other _ _ _ _ (by intro e; injection e; omega), World.cell?_setCell_other _ _ _ _ (by intro e; injection e; omega), World.cell?_setCell_other _ _ _ _ (by intro e; injection e; omega), World.cell?_setCell_other _ _ _ _ (by intro e; injection e; omega), World.cell?_setCell_other _ _ _ _ (by intro e; injection e; omega), World.cell?_setCell_other _ _ _ _ (by intro e; injection e; omega), World.cell?_setCell_other _ _ _ _ (by intro e; injection e; omega), World.cell?_setCell_other _ _ _ _ (by intro e; injection e; omega), World.cell?_setCell_other _ _ _ _ (by intro e; injection e; omega)]
    refine same_of ?_
    rw [h.c0]; rfl
  · rw [World.cell?_setCell_other _ _ _ _ (by intro e; injection e; omega), World.cell?_setCell_other _ _ _ _ (by intro e; injection e; omega), World.cell?_setCell_other _ _ _ _ (by intro e; injection e; omega), World.cell?_setCell_other _ _ _ _ (by intro e; injection e; omega), World.cell?_setCell_other _ _ _ _ (by intro e; injection e; omega), World.cell?_setCell_other _ _ _ _ (by intro e; injection e; omega), World.cell?_setCell_other _ _ _ _ (by intro e; injection e; omega), World.cell?_setCell_other _ _ _ _ (by intro e; injection e; omega)]
    refine same_of ?_
    rw [World.cell?_setCell_other _ _ _ _ (by intro e; injection e; omega)]
    rw [h.c1]; rfl
  · rw [World.cell?_setCell_other _ _ _ _ (by intro e; injection e; omega), World.cell?_setCell_other _ _ _ _ (by intro e; injection e; omega), World.cell?_setCell_other _ _ _ _ (by intro e; injection e; omega), World.cell?_setCell_other _ _ _ _ (by intro e; injection e; omega), World.cell?_setCell_other _ _ _ _ (by intro e; injection e; omega), World.cell?_setCell_other _ _ _ _ (by intro e; injection e; omega), World.cell?_setCell_other _ _ _ _ (by intro e; injection e; omega)]
    refine same_of ?_
    rw [World.cell?_setCell_other _ _ _ _ (by intro e; injection e; omega), World.cell?_setCell_other _ _ _ _ (by intro e; injection e; omega)]
    rw [h.c2]; rfl
  · rw [World.cell?_setCell_other _ _ _ _ (by intro e; injection e; omega), World.cell?_setCell_other _ _ _ _ (by intro e; injection e; omega), World.cell?_setCell_other _ _ _ _ (by intro e; injection e; omega), World.cell?_setCell_other _ _ _ _ (by intro e; injection e; omega), World.cell?_setCell_other _ _ _ _ (by intro e; injection e; omega), World.cell?_setCell_other _ _ _ _ (by intro e; injection e; omega)]
    refine same_of ?_
    rw [World.cell?_setCell_other _ _ _ _ (by intro e; injection e; omega), World.cell?_setCell_other _ _ _ _ (by intro e; injection e; omega), World.cell?_setCell_other _ _ _ _ (by intro e; injection e; omega)]
    rw [h.c3]; rfl
  · rw [World.cell?_setCell_other _ _ _ _ (by intro e; injection e; omega), World.cell?_setCell_other _ _ _ _ (by intro e; injection e; omega), World.cell?_setCell_other _ _ _ _ (by intro e; injection e; omega), World.cell?_setCell_other _ _ _ _ (by intro e; injection e; omega), World.cell?_setCell_other _ _ _ _ (by intro e; injection e; omega)]
    refine same_of ?_
    rw [World.cell?_setCell_other _ _ _ _ (by intro e; injection e; omega), World.cell?_setCell_other _ _ _ _ (by intro e; injection e; omega), World.cell?_setCell_other _ _ _ _ (by intro e; injection e; omega), World.cell?_setCell_other _ _ _ _ (by intro e; injection e; omega)]
    rw [h.c4]; rfl
  · rw [World.cell?_setCell_other _ _ _ _ (by intro e; injection e; omega), World.cell?_setCell_other _ _ _ _ (by intro e; injection e; omega), World.cell?_setCell_other _ _ _ _ (by intro e; injection e; omega), World.cell?_setCell_other _ _ _ _ (by intro e; injection e; omega)]
    refine same_of ?_
    rw [World.cell?_setCell_other _ _ _ _ (by intro e; injection e; omega), World.cell?_setCell_other _ _ _ _ (by intro e; injection e; omega), World.cell?_setCell_other _ _ _ _ (by intro e; injection e; omega), World.cell?_setCell_other _ _ _ _ (by intro e; injection e; omega), World.cell?_setCell_other _ _ _ _ (by intro e; injection e; omega)]
    rw [h.c5]; rfl
  · rw [World.cell?_setCell_other _ _ _ _ (by intro e; injection e; omega), World.cell?_setCell_other _ _ _ _ (by intro e; injection e; omega), World.cell?_setCell_other _ _ _ _ (by intro e; injection e; omega)]
    refine same_of ?_
    rw [World.cell?_setCell_other _ _ _ _ (by intro e; injection e; omega), World.cell?_setCell_other _ _ _ _ (by intro e; injection e; omega), World.cell?_setCell_other _ _ _ _ (by intro e; injection e; omega), World.cell?_setCell_other _ _ _ _ (by intro e; injection e; omega), World.cell?_setCell_other _ _ _ _ (by intro e; injection e; omega), World.cell?_setCell_other _ _ _ _ (by intro e; injection e; omega)]
    rw [h.c6]; rfl
  · rw [World.cell?_setCell_other _ _ _ _ (by intro e; injection e; omega), World.cell?_setCell_other _ _ _ _ (by intro e; injection e; omega)]
    refine same_of ?_
    rw [World.cell?_setCell_other _ _ _ _ (by intro e; injection e; omega), World.cell?_setCell_other _ _ _ _ (by intro e; injection e; omega), World.cell?_setCell_other _ _ _ _ (by intro e; injection e; omega), World.cell?_setCell_other _ _ _ _ (by intro e; injection e; omega), World.cell?_setCell_other _ _ _ _ (by intro e; injection e; omega), World.cell?_setCell_other _ _ _ _ (by intro e; injection e; omega), World.cell?_setCell_other _ _ _ _ (by intro e; injection e; omega)]
    rw [h.c7]; rfl
  · rw [World.cell?_setCell_other _ _ _ _ (by intro e; injection e; omega)]
    refine same_of ?_
    rw [World.cell?_setCell_other _ _ _ _ (by intro e; injection e; omega), World.cell?_setCell_other _ _ _ _ (by intro e; injection e; omega), World.cell?_setCell_other _ _ _ _ (by intro e; injection e; omega), World.cell?_setCell_other _ _ _ _ (by intro e; injection e; omega), World.cell?_setCell_other _ _ _ _ (by intro e; injection e; omega), World.cell?_setCell_other _ _ _ _ (by intro e; injection e; omega), World.cell?_setCell_other _ _ _ _ (by intro e; injection e; omega), World.cell?_setCell_other _ _ _ _ (by intro e; injection e; omega)]
    rw [h.c8]; rfl
  · refine same_of ?_
    rw [World.cell?_setCell_other _ _ _ _ (by intro e; injection e; omega), World.cell?_setCell_other _ _ _ _ (by intro e; injection e; omega), World.cell?_setCell_other _ _ _ _ (by intro e; injection e; omega), World.cell?_setCell_other _ _ _ _ (by intro e; injection e; omega), World.cell?_setCell_other _ _ _ _ (by intro e; injection e; omega), World.cell?_setCell_other _ _ _ _ (by intro e; injection e; omega), World.cell?_setCell_other _ _ _ _ (by intro e; injection e; omega), World.cell?_setCell_other _ _ _ _ (by intro e; injection e; omega), World.cell?_setCell_other _ _ _ _ (by intro e; injection e; omega)]
    rw [h.c9]; rfl
def setS (w : World) (A o : Nat) (x : SV) : World :=
  (((((((((w.setCell ⟨A, o, none⟩ (.int .u8 x.pr)).setCell ⟨A, o + 1, none⟩ (.int .u8 x.fl)).setCell ⟨A, o + 2, none⟩ (.int .u8 x.lv)).setCell ⟨A, o + 3, none⟩ (.int .i64 x.id)).setCell ⟨A, o + 4, none⟩ (.int .i64 x.fb)).setCell ⟨A, o + 5, none⟩ (.int .i64 x.pb)).setCell ⟨A, o + 6, none⟩ (.int .i64 x.rf)).setCell ⟨A, o + 7, none⟩ (.int .i64 x.wd)).setCell ⟨A, o + 8, none⟩ (.int .i64 x.ht))
theorem setS_far {w : World} {A o : Nat} {x : SV} {B c : Nat} (h : B ≠ A ∨ c < o ∨ o + 9 ≤ c) : (setS w A o x).cell? ⟨B, c, none⟩ = w.cell? ⟨B, c, none⟩ := by
  unfold setS
  rw [World.cell?_setCell_other _ _ _ _ (by intro e; injection e; omega), World.cell?_setCell_other _ _ _ _ (by intro e; injection e; omega), World.cell?_setCell_other _ _ _ _ (by intro e; injection e; omega), World.cell?_setCell_other _ _ _ _ (by intro e; injection e; omega), World.cell?_setCell_other _ _ _ _ (by intro e; injection e; omega), World.cell?_setCell_other _ _ _ _ (by intro e; injection e; omega), World.cell?_setCell_other _ _ _ _ (by intro e; injection e; omega), World.cell?_setCell_other _ _ _ _ (by intro e; injection e; omega), World.cell?_setCell_other _ _ _ _ (by intro e; injection e; omega)]
theorem setS_frozen {w : World} {A o : Nat} {x : SV} (a : Addr) : (setS w A o x).frozen? a = w.frozen? a := by
  unfold setS
  simp
theorem setS_size {w : World} {A o : Nat} {x : SV} : (setS w A o x).heap.size = w.heap.size := by
  unfold setS
  simp
theorem setS_only {w w0 : World} {A o : Nat} {x : SV} {S : List Nat} (h : Only S w0 w) (hA : A ∈ S ∨ w0.heap.size ≤ A) : Only S w0 (setS w A o x) := by
  unfold setS
  exact h |>.setCell hA _ |>.setCell hA _ |>.setCell hA _ |>.setCell hA _ |>.setCell hA _ |>.setCell hA _ |>.setCell hA _ |>.setCell hA _ |>.setCell hA _
theorem setS_at {w : World} {A o : Nat} {x y : SV} (h : SAt w A o y) : SAt (setS w A o x) A o x := by
  unfold setS
  refine ⟨?_, ?_, ?_, ?_, ?_, ?_, ?_, ?_, ?_⟩
  · rw [World.cell?_setCell_other _ _ _ _ (by intro e; injection e; omega), World.cell?_setCell_other _ _ _ _ (by intro e; injection e; omega), World.cell?_setCell_other _ _ _ _ (by intro e; injection e; omega), World.cell?_setCell_other _ _ _ _ (by intro e; injection e; omega), World.cell?_setCell_other _ _ _ _ (by intro e; injection e; omega), World.cell?_setCell_other _ _ _ _ (by intro e; injection e; omega), World.cell?_setCell_other _ _ _ _ (by intro e; injection e; omega), World.cell?_setCell_other _ _ _ _ (by intro e; injection e; omega)]
    refine same_of ?_
    rw [h.c0]; rfl
  · rw [World.cell?_setCell_other _ _ _ _ (by intro e; injection e; omega), World.cell?_setCell_other _ _ _ _ (by intro e; injection e; omega), World.cell?_setCell_other _ _ _ _ (by intro e; injection e; omega), World.cell?_setCell_other _ _ _ _ (by intro e; injection e; omega), World.cell?_setCell_other _ _ _ _ (by intro e; injection e; omega), World.cell?_setCell_other _ _ _ _ (by intro e; injection e; omega), World.cell?_setCell_other _ _ _ _ (by intro e; injection e; omega)]
    refine same_of ?_
    rw [World.cell?_setCell_other _ _ _ _ (by intro e; injection e; omega)]
    rw [h.c1]; rfl
  · rw [World.cell?_setCell_other _ _ _ _ (by intro e; injection e; omega), World.cell?_setCell_other _ _ _ _ (by intro e; injection e; omega), World.cell?_setCell_other _ _ _ _ (by intro e; injection e; omega), World.cell?_setCell_other _ _ _ _ (by intro e; injection e; omega), World.cell?_setCell_other _ _ _ _ (by intro e; injection e; omega), World.cell?_setCell_other _ _ _ _ (by intro e; injection e; omega)]
    refine same_of ?_
    rw [World.cell?_setCell_other _ _ _ _ (by intro e; injection e; omega), World.cell?_setCell_other _ _ _ _ (by intro e; injection e; omega)]
    rw [h.c2]; rfl
  · rw [World.cell?_setCell_other _ _ _ _ (by intro e; injection e; omega), World.cell?_setCell_other _ _ _ _ (by intro e; injection e; omega), World.cell?_setCell_other _ _ _ _ (by intro e; injection e; omega), World.cell?_setCell_other _ _ _ _ (by intro e; injection e; omega), World.cell?_setCell_other _ _ _ _ (by intro e; injection e; omega)]
    refine same_of ?_
    rw [World.cell?_setCell_other _ _ _ _ (by intro e; injection e; omega), World.cell?_setCell_other _ _ _ _ (by intro e; injection e; omega), World.cell?_setCell_other _ _ _ _ (by intro e; injection e; omega)]
    rw [h.c3]; rfl
  · rw [World.cell?_setCell_other _ _ _ _ (by intro e; injection e; omega), World.cell?_setCell_other _ _ _ _ (by intro e; injection e; omega), World.cell?_setCell_other _ _ _ _ (by intro e; injection e; omega), World.cell?_setCell_other _ _ _ _ (by intro e; injection e; omega)]
    refine same_of ?_
    rw [World.cell?_setCell_other _ _ _ _ (by intro e; injection e; omega), World.cell?_setCell_other _ _ _ _ (by intro e; injection e; omega), World.cell?_setCell_other _ _ _ _ (by intro e; injection e; omega), World.cell?_setCell_other _ _ _ _ (by intro e; injection e; omega)]
    rw [h.c4]; rfl
  · rw [World.cell?_setCell_other _ _ _ _ (by intro e; injection e; omega), World.cell?_setCell_other _ _ _ _ (by intro e; injection e; omega), World.cell?_setCell_other _ _ _ _ (by intro e; injection e; omega)]
    refine same_of ?_
    rw [World.cell?_setCell_other _ _ _ _ (by intro e; injection e; omega), World.cell?_setCell_other _ _ _ _ (by intro e; injection e; omega), World.cell?_setCell_other _ _ _ _ (by intro e; injection e; omega), World.cell?_setCell_other _ _ _ _ (by intro e; injection e; omega), World.cell?_setCell_other _ _ _ _ (by intro e; injection e; omega)]
    rw [h.c5]; rfl
  · rw [World.cell?_setCell_other _ _ _ _ (by intro e; injection e; omega), World.cell?_setCell_other _ _ _ _ (by intro e; injection e; omega)]
    refine same_of ?_
    rw [World.cell?_setCell_other _ _ _ _ (by intro e; injection e; omega), World.cell?_setCell_other _ _ _ _ (by intro e; injection e; omega), World.cell?_setCell_other _ _ _ _ (by intro e; injection e; omega), World.cell?_setCell_other _ _ _ _ (by intro e; injection e; omega), World.cell?_setCell_other _ _ _ _ (by intro e; injection e; omega), World.cell?_setCell_other _ _ _ _ (by intro e; injection e; omega)]
    rw [h.c6]; rfl
  · rw [World.cell?_setCell_other _ _ _ _ (by intro e; injection e; omega)]
    refine same_of ?_
    rw [World.cell?_setCell_other _ _ _ _ (by intro e; injection e; omega), World.cell?_setCell_other _ _ _ _ (by intro e; injection e; omega), World.cell?_setCell_other _ _ _ _ (by intro e; injection e; omega), World.cell?_setCell_other _ _ _ _ (by intro e; injection e; omega), World.cell?_setCell_other _ _ _ _ (by intro e; injection e; omega), World.cell?_setCell_other _ _ _ _ (by intro e; injection e; omega), World.cell?_setCell_other _ _ _ _ (by intro e; injection e; omega)]
    rw [h.c7]; rfl
  · refine same_of ?_
    rw [World.cell?_setCell_other _ _ _ _ (by intro e; injection e; omega), World.cell?_setCell_other _ _ _ _ (by intro e; injection e; omega), World.cell?_setCell_other _ _ _ _ (by intro e; injection e; omega), World.cell?_setCell_other _ _ _ _ (by intro e; injection e; omega), World.cell?_setCell_other _ _ _ _ (by intro e; injection e; omega), World.cell?_setCell_other _ _ _ _ (by intro e; injection e; omega), World.cell?_setCell_other _ _ _ _ (by intro e; injection e; omega), World.cell?_setCell_other _ _ _ _ (by intro e; injection e; omega)]
    rw [h.c8]; rfl
theorem info_p : (Tryz.prog.info? 24).map (·.size) = some 10 := by kernel_rfl
theorem info_s : (Tryz.prog.info? 27).map (·.size) = some 9 := by kernel_rfl
/-- A struct is stored at cells that are there. -/
theorem wpList_store_set {P : Program} {w w' : World} {ops : Array Oper} {rest : List Oper} {o : Oper} {a : Act} {Q : Exit → Act → World → Prop} (hg : o.guard = none) (t : TypeId) (x y : Operand) (ho : o.op = .store t x y)
    (A off : Nat) (cs : Array Value) (hx : a.eval x = .pointer (some ⟨A, off, none⟩)) (hy : a.eval y = .agg cs) (hi : (P.info? t).map (·.size) = some cs.size)
    (hc : ∀ j, j < cs.toList.length → (w.cell? ⟨A, off + 0 + j, none⟩).isSome = true) (hf : ∀ j, j < cs.toList.length → w.frozen? ⟨A, off + 0 + j, none⟩ = false) (h1 : ∀ v ∈ cs.toList, v.oneCell' = true)
    (hw : w' = w.setCells A (off + 0) cs.toList) (h : wpList P ops Q rest (a.put o.dst undef) w') : wpList P ops Q (o :: rest) a w := by
  subst hw
  refine wpList_plain hg fun K hK => ?_
  have hst := run_storeCells_cells (P := P) A off cs.toList 0 w hc hf h1
  unfold Oper.wp execOp
  cases hq : P.info? t with
  | none => simp [hq] at hi
  | some i =>
    have hs : cs.size = i.size := by simp [hq] at hi; omega
    simp only [ho, hx, hy, Instr.storeAt, Instr.sureAddr, Sem.run_bind, Sem.run_pure, Result.andThen_ok]
    simp [storeVar, sizeOf, typeInfo, hq, Value.cells, hs, hst, Result.andThen]
    exact hK _ _ (by simpa using h)
theorem wstore_p {w : World} {ops : Array Oper} {rest : List Oper} {o : Oper} {a : Act} {Q : Exit → Act → World → Prop} (hg : o.guard = none) (x y : Operand) (ho : o.op = .store 24 x y) (A off : Nat) (p q : PV)
    (hx : a.eval x = .pointer (some ⟨A, off, none⟩)) (hy : a.eval y = pV p) (hq : PAt w A off q) (hf : ∀ o, w.frozen? ⟨A, o, none⟩ = false) (h : ∀ w', w' = setP w A off p → wpList Tryz.prog ops Q rest (a.put o.dst undef) w') : wpList Tryz.prog ops Q (o :: rest) a w := by
  refine wpList_store_set hg 24 x y ho A off _ hx hy info_p (fun j hj => ?_) (fun j _ => hf _) (fun v hv => ?_) rfl (h _ rfl)
  · have hj' : j < 10 := by simpa using hj
    obtain rfl | rfl | rfl | rfl | rfl | rfl | rfl | rfl | rfl | rfl : j = 0 ∨ j = 1 ∨ j = 2 ∨ j = 3 ∨ j = 4 ∨ j = 5 ∨ j = 6 ∨ j = 7 ∨ j = 8 ∨ j = 9 := by omega
    · exact Option.isSome_iff_exists.2 ⟨_, hq.c0⟩
    · exact Option.isSome_iff_exists.2 ⟨_, hq.c1⟩
    · exact Option.isSome_iff_exists.2 ⟨_, hq.c2⟩
    · exact Option.isSome_iff_exists.2 ⟨_, hq.c3⟩
    · exact Option.isSome_iff_exists.2 ⟨_, hq.c4⟩
    · exact Option.isSome_iff_exists.2 ⟨_, hq.c5⟩
    · exact Option.isSome_iff_exists.2 ⟨_, hq.c6⟩
    · exact Option.isSome_iff_exists.2 ⟨_, hq.c7⟩
    · exact Option.isSome_iff_exists.2 ⟨_, hq.c8⟩
    · exact Option.isSome_iff_exists.2 ⟨_, hq.c9⟩
  · simp at hv
    rcases hv with h | h | h | h | h | h | h | h | h | h <;> (subst h; rfl)
theorem wstore_s {w : World} {ops : Array Oper} {rest : List Oper} {o : Oper} {a : Act} {Q : Exit → Act → World → Prop} (hg : o.guard = none) (x y : Operand) (ho : o.op = .store 27 x y) (A off : Nat) (p q : SV)
    (hx : a.eval x = .pointer (some ⟨A, off, none⟩)) (hy : a.eval y = sV p) (hq : SAt w A off q) (hf : ∀ o, w.frozen? ⟨A, o, none⟩ = false) (h : ∀ w', w' = setS w A off p → wpList Tryz.prog ops Q rest (a.put o.dst undef) w') : wpList Tryz.prog ops Q (o :: rest) a w := by
  refine wpList_store_set hg 27 x y ho A off _ hx hy info_s (fun j hj => ?_) (fun j _ => hf _) (fun v hv => ?_) rfl (h _ rfl)
  · have hj' : j < 9 := by simpa using hj
    obtain rfl | rfl | rfl | rfl | rfl | rfl | rfl | rfl | rfl : j = 0 ∨ j = 1 ∨ j = 2 ∨ j = 3 ∨ j = 4 ∨ j = 5 ∨ j = 6 ∨ j = 7 ∨ j = 8 := by omega
    · exact Option.isSome_iff_exists.2 ⟨_, hq.c0⟩
    · exact Option.isSome_iff_exists.2 ⟨_, hq.c1⟩
    · exact Option.isSome_iff_exists.2 ⟨_, hq.c2⟩
    · exact Option.isSome_iff_exists.2 ⟨_, hq.c3⟩
    · exact Option.isSome_iff_exists.2 ⟨_, hq.c4⟩
    · exact Option.isSome_iff_exists.2 ⟨_, hq.c5⟩
    · exact Option.isSome_iff_exists.2 ⟨_, hq.c6⟩
    · exact Option.isSome_iff_exists.2 ⟨_, hq.c7⟩
    · exact Option.isSome_iff_exists.2 ⟨_, hq.c8⟩
  · simp at hv
    rcases hv with h | h | h | h | h | h | h | h | h <;> (subst h; rfl)
end Go.Proofs.YtjjjfmnhdnajkaaGreatDoor
