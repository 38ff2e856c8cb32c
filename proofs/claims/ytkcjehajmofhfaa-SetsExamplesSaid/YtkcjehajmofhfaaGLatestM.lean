/- SetsLatest: what the law's arrays hold. -/
import Derived.Test.YtkcjehajmofhfaaSeA
import Derived.Deep.LoopGhost
import Derived.Laws.IdiomCopy
import Derived.Deep.CutBlock
namespace Go.Proofs.Ytkcjehajmofhfaa
open Go.RowKit Go.Maps
set_option linter.unusedVariables false

/-- The four arrays of the law. -/
structure Mem (w : World) (A1 A2 A3 A4 : Nat) (P : Nat → PV) (Q : Nat → SV) (kn th : Nat → Bool) : Prop where
  p : ∀ i, i < 4 → PAt w A1 (i * 10) (P i)
  q : ∀ i, i < 4 → SAt w A2 (i * 9) (Q i)
  k : ∀ i, i < 4 → w.cell? ⟨A3, i, none⟩ = some (.bool (kn i))
  t : ∀ i, i < 4 → w.cell? ⟨A4, i, none⟩ = some (.bool (th i))
  f1 : ∀ o, w.frozen? ⟨A1, o, none⟩ = false
  f2 : ∀ o, w.frozen? ⟨A2, o, none⟩ = false
  f3 : ∀ o, w.frozen? ⟨A3, o, none⟩ = false
  f4 : ∀ o, w.frozen? ⟨A4, o, none⟩ = false
  l1 : A1 < w.heap.size
  l2 : A2 < w.heap.size
  l3 : A3 < w.heap.size
  l4 : A4 < w.heap.size
  ne : A1 < A2 ∧ A2 < A3 ∧ A3 < A4
theorem Mem.only {S : List Nat} {w w' : World} {A1 A2 A3 A4 : Nat} {P : Nat → PV} {Q : Nat → SV} {kn th : Nat → Bool} (h : Mem w A1 A2 A3 A4 P Q kn th) (o : Only S w w') (h1 : A1 ∉ S) (h2 : A2 ∉ S) (h3 : A3 ∉ S) (h4 : A4 ∉ S) : Mem w' A1 A2 A3 A4 P Q kn th :=
  ⟨fun i hi => (h.p i hi).only o h1, fun i hi => (h.q i hi).only o h2, fun i hi => o.cell (h.k i hi) h3, fun i hi => o.cell (h.t i hi) h4,
   fun x => (o.frozen (p := ⟨A1, x, none⟩) h.l1 h1).trans (h.f1 x), fun x => (o.frozen (p := ⟨A2, x, none⟩) h.l2 h2).trans (h.f2 x), fun x => (o.frozen (p := ⟨A3, x, none⟩) h.l3 h3).trans (h.f3 x), fun x => (o.frozen (p := ⟨A4, x, none⟩) h.l4 h4).trans (h.f4 x),
   Nat.lt_of_lt_of_le h.l1 o.size, Nat.lt_of_lt_of_le h.l2 o.size, Nat.lt_of_lt_of_le h.l3 o.size, Nat.lt_of_lt_of_le h.l4 o.size, h.ne⟩
/-- What the arrays say of what is known. -/
structure Log (f : Int → Option SV) (g : Int → Option PV) (P : Nat → PV) (Q : Nat → SV) (kn th : Nat → Bool) : Prop where
  k : ∀ i : Nat, i < 4 → kn i = (g i).isSome
  t : ∀ i : Nat, i < 4 → th i = (f i).isSome
  p : ∀ i : Nat, i < 4 → ∀ x, g i = some x → P i = x ∧ 0 ≤ x.sps ∧ x.sps < 4
  q : ∀ i : Nat, i < 4 → ∀ x, f i = some x → Q i = x
  g4 : g 4 = none
/-- The store and the arrays. -/
def Lat (W w : World) (s A1 A2 A3 A4 n : Nat) : Prop := ∃ L f g P Q kn th, StL w s L f g n ∧ (∀ y, y ∈ L → W.heap.size ≤ y ∧ y ≠ A1 ∧ y ≠ A2 ∧ y ≠ A3 ∧ y ≠ A4) ∧ Mem w A1 A2 A3 A4 P Q kn th ∧ Log f g P Q kn th ∧ W.heap.size ≤ A1 ∧ Only [] W w
def zb : Nat → Bool := fun _ => false

/-- A parameter set is stored, cell by cell. -/
def setP (w : World) (A o : Nat) (x : PV) : World :=
  ((((((((((w.setCell ⟨A, o, none⟩ (.int .i64 x.id)).setCell ⟨A, o + 1, none⟩ (.int .i64 x.sps)).setCell ⟨A, o + 2, none⟩ (.bool x.cab)).setCell ⟨A, o + 3, none⟩ (.int .i64 x.rf)).setCell ⟨A, o + 4, none⟩ (.int .i64 x.r1)).setCell ⟨A, o + 5, none⟩ (.int .i64 x.qp)).setCell ⟨A, o + 6, none⟩ (.int .i64 x.qs)).setCell ⟨A, o + 7, none⟩ (.int .i64 x.ch)).setCell ⟨A, o + 8, none⟩ (.bool x.db)).setCell ⟨A, o + 9, none⟩ (.bool x.nt))
theorem setP_far {w : World} {A o : Nat} {x : PV} {B c : Nat} (h : B ≠ A ∨ c < o ∨ o + 10 ≤ c) : (setP w A o x).cell? ⟨B, c, none⟩ = w.cell? ⟨B, c, none⟩ := by
  unfold setP
  rw [World.cell?_setCell_other _ _ _ _ (by intro e; injection e; omega), World.cell?_setCell_other _ _ _ _ (by intro e; injection e; omega), World.cell?_setCell_other _ _ _ _ (by intro e; injection e; omega), World.cell?_setCell_other _ _ _ _ (by intro e; injection e; omega), World.cell?_setCell_other _ _ _ _ (by intro e; injection e; omega), World.cell?_setCell_other _ _ _ _ (by intro e; injection e; omega), World.cell?_setCell_other _ _ _ _ (by intro e; injection e; omega), World.cell?_setCell_other _ _ _ _ (by intro e; injection e; omega), World.cell?_setCell_other _ _ _ _ (by intro e; injection e; omega), World.cell?_setCell_other _ _ _ _ (by intro e; injection e; omega)]
theorem setP_frozen {w : World} {A o : Nat} {x : PV} (a : Addr) : (setP w A o x).frozen? a = w.frozen? a := by
  unfold setP
  simp
theorem setP_size {w : World} {A o : Nat} {x : PV} : (setP w A o x).heap.size = w.heap.size := by
  unfold setP
  simp
theorem setP_only {w w0 : World} {A o : Nat} {x : PV} {S : List Nat} (h : Only S w0 w) (hA : A ∈ S ∨ w0.heap.size ≤ A) : Only S w0 (setP w A o x) := by
  unfold setP
  exact h |>.setCell hA _ |>.setCell hA _ |>.setCell hA _ |>.setCell hA _ |>.setCell hA _ |>.setCell hA _ |>.setCell hA _ |>.setCell hA _ |>.setCell hA _ |>.setCell hA _
theorem setP_at {w : World} {A o : Nat} {x y : PV} (h : PAt w A o y) : PAt (setP w A o x) A o x := by
  unfold setP
  refine ⟨?_, ?_, ?_, ?_, ?_, ?_, ?_, ?_, ?_, ?_⟩
  · rw [World.cell?_setCell_other _ _ _ _ (by intro e; injection e; omega), World.cell?_setCell_other _ _ _ _ (by intro e; injection e; omega), World.cell?_setCell_other _ _ _ _ (by intro e; injection e; omega), World.cell?_setCell_other _ _ _ _ (by intro e; injection e; omega), World.cell?_setCell_other _ _ _ _ (by intro e; injection e; omega), World.cell?_setCell_other _ _ _ _ (by intro e; injection e; omega), World.cell?_setCell_other _ _ _ _ (by intro e; injection e; omega), World.cell?_setCell_other _ _ _ _ (by intro e; injection e; omega), World.cell?_setCell_other _ _ _ _ (by intro e; injection e; omega)]
    refine same_of ?_
    rw [h.c0]; rfl
  · rw [World.cell?_setCell_other _ _ _ _ (by intro e; injection e; omega), World.cell?_setCell_other _ _ _ _ (by intro e; injection e; omega), World.cell?_setCell_other _ _ _ _ (by intro e; injection e; omega), World.cell?_setCell_other _ _ _ _ (by intro e; injection e; omega), World.cell?_setCell_other _ _ _ _ (by intro e; injection e; omega), World.cell?_setCell_other _ _ _ _ (by intro e; injection e; omega), World.cell?_setCell_other _ _ _ _ (by intro e; injection e; omega), World.cell?_setCell_other _ _ _ _ (by intro e; injection e; omega)]
    refine same_of ?_
    rw [World.cell?_setCell_other _ _ _ _ (by intro e; injection e; omega)]
    rw [h.c1]; rfl
  · rw [World.cell?_setCell_other _ _ _ _ (by intro e; injection e; omega), World.cell?_setCell_other _ _ _ _ (by intro e; injection e; omega), World.cell?_setCell_other _ _ _ _ (by intro e; injection e; omega), World.cell?_setCell_other _ _ _ _ (by intro e; injection e; omega), World.cell?_setCell_other _ _ _ _ (by intro e; injection e; omega), World.cell?_setCell_other _ _ _ _ (by intro e; injection e; omega), World.cell?_setCell_other _ _ _ _ (by intro e; injection e; omega)]
    refine same_of ?_
    rw [World.cell?_setCell_other _ _ _ _ (by intro e; injection e; omega), World.cell?_setCell_other _ _ _ _ (by intro e; injection e; omega)]
    rw [h.c2]; rfl
  · rw [World.cell?_setCell_other _ _ _ _ (by intro e; injection e; omega), World.cell?_setCell_other _ _ _ _ (by intro e; injection e; omega), World.cell?_setCell_other _ _ _ _ (by intro e; injection e; omega), World.cell?_setCell_other _ _ _ _ (by intro e; injection e; omega), World.cell?_setCell_other _ _ _ _ (by intro e; injection e; omega), World.cell?_setCell_other _ _ _ _ (by intro e; injection e; omega)]
    refine same_of ?_
    rw [World.cell?_setCell_other _ _ _ _ (by intro e; injection e; omega), World.cell?_setCell_other _ _ _ _ (by intro e; injection e; omega), World.cell?_setCell_other _ _ _ _ (by intro e; injection e; omega)]
    rw [h.c3]; rfl
  · rw [World.cell?_setCell_other _ _ _ _ (by intro e; injection e; omega), World.cell?_setCell_other _ _ _ _ (by intro e; injection e; omega), World.cell?_setCell_other _ _ _ _ (by intro e; injection e; omega), World.cell?_setCell_other _ _ _ _ (by intro e; injection e; omega), World.cell?_setCell_other _ _ _ _ (by intro e; injection e; omega)]
    refine same_of ?_
    rw [World.cell?_setCell_other _ _ _ _ (by intro e; injection e; omega), World.cell?_setCell_other _ _ _ _ (by intro e; injection e; omega), World.cell?_setCell_other _ _ _ _ (by intro e; injection e; omega), World.cell?_setCell_other _ _ _ _ (by intro e; injection e; omega)]
    rw [h.c4]; rfl
  · rw [World.cell?_setCell_other _ _ _ _ (by intro e; injection e; omega), World.cell?_setCell_other _ _ _ _ (by intro e; injection e; omega), World.cell?_setCell_other _ _ _ _ (by intro e; injection e; omega), World.cell?_setCell_other _ _ _ _ (by intro e; injection e; omega)]
    refine same_of ?_
    rw [World.cell?_setCell_other _ _ _ _ (by intro e; injection e; omega), World.cell?_setCell_other _ _ _ _ (by intro e; injection e; omega), World.cell?_setCell_other _ _ _ _ (by intro e; injection e; omega), World.cell?_setCell_other _ _ _ _ (by intro e; injection e; omega), World.cell?_setCell_other _ _ _ _ (by intro e; injection e; omega)]
    rw [h.c5]; rfl
  · rw [World.cell?_setCell_other _ _ _ _ (by intro e; injection e; omega), World.cell?_setCell_other _ _ _ _ (by intro e; injection e; omega), World.cell?_setCell_other _ _ _ _ (by intro e; injection e; omega)]
    refine same_of ?_
    rw [World.cell?_setCell_other _ _ _ _ (by intro e; injection e; omega), World.cell?_setCell_other _ _ _ _ (by intro e; injection e; omega), World.cell?_setCell_other _ _ _ _ (by intro e; injection e; omega), World.cell?_setCell_other _ _ _ _ (by intro e; injection e; omega), World.cell?_setCell_other _ _ _ _ (by intro e; injection e; omega), World.cell?_setCell_other _ _ _ _ (by intro e; injection e; omega)]
    rw [h.c6]; rfl
  · rw [World.cell?_setCell_other _ _ _ _ (by intro e; injection e; omega), World.cell?_setCell_other _ _ _ _ (by intro e; injection e; omega)]
    refine same_of ?_
    rw [World.cell?_setCell_other _ _ _ _ (by intro e; injection e; omega), World.cell?_setCell_other _ _ _ _ (by intro e; injection e; omega), World.cell?_setCell_other _ _ _ _ (by intro e; injection e; omega), World.cell?_setCell_other _ _ _ _ (by intro e; injection e; omega), World.cell?_setCell_other _ _ _ _ (by intro e; injection e; omega), World.cell?_setCell_other _ _ _ _ (by intro e; injection e; omega), World.cell?_setCell_other _ _ _ _ (by intro e; injection e; omega)]
    rw [h.c7]; rfl
  · rw [World.cell?_setCell_other _ _ _ _ (by intro e; injection e; omega)]
    refine same_of ?_
    rw [World.cell?_setCell_other _ _ _ _ (by intro e; injection e; omega), World.cell?_setCell_other _ _ _ _ (by intro e; injection e; omega), World.cell?_setCell_other _ _ _ _ (by intro e; injection e; omega), World.cell?_setCell_other _ _ _ _ (by intro e; injection e; omega), World.cell?_setCell_other _ _ _ _ (by intro e; injection e; omega), World.cell?_setCell_other _ _ _ _ (by intro e; injection e; omega), World.cell?_setCell_other _ _ _ _ (by intro e; injection e; omega), World.cell?_setCell_other _ _ _ _ (by intro e; injection e; omega)]
    rw [h.c8]; rfl
  · refine same_of ?_
    rw [World.cell?_setCell_other _ _ _ _ (by intro e; injection e; omega), World.cell?_setCell_other _ _ _ _ (by intro e; injection e; omega), World.cell?_setCell_other _ _ _ _ (by intro e; injection e; omega), World.cell?_setCell_other _ _ _ _ (by intro e; injection e; omega), World.cell?_setCell_other _ _ _ _ (by intro e; injection e; omega), World.cell?_setCell_other _ _ _ _ (by intro e; injection e; omega), World.cell?_setCell_other _ _ _ _ (by intro e; injection e; omega), World.cell?_setCell_other _ _ _ _ (by intro e; injection e; omega), World.cell?_setCell_other _ _ _ _ (by intro e; injection e; omega)]
    rw [h.c9]; rfl
def setS (w : World) (A o : Nat) (x : SV) : World :=
  (((((((((w.setCell ⟨A, o, none⟩ (.int .u8 x.pr)).setCell ⟨A, o + 1, none⟩ (.int .u8 x.fl)).setCell ⟨A, o + 2, none⟩ (.int .u8 x.lv)).setCell ⟨A, o + 3, none⟩ (.int .i64 x.id)).setCell ⟨A, o + 4, none⟩ (.int .i64 x.fb)).setCell ⟨A, o + 5, none⟩ (.int .i64 x.pb)).setCell ⟨A, o + 6, none⟩ (.int .i64 x.rf)).setCell ⟨A, o + 7, none⟩ (.int .i64 x.wd)).setCell ⟨A, o + 8, none⟩ (.int .i64 x.ht))
theorem setS_far {w : World} {A o : Nat} {x : SV} {B c : Nat} (h : B ≠ A ∨ c < o ∨ o + 9 ≤ c) : (setS w A o x).cell? ⟨B, c, none⟩ = w.cell? ⟨B, c, none⟩ := by
  unfold setS
  rw [World.cell?_setCell_other _ _ _ _ (by intro e; injection e; omega), World.cell?_setCell_other _ _ _ _ (by intro e; injection e; omega), World.cell?_setCell_other _ _ _ _ (by intro e; injection e; omega), World.cell?_setCell_other _ _ _ _ (by intro e; injection e; omega), World.cell?_setCell_other _ _ _ _ (by intro e; injection e; omega), World.cell?_setCell_other _ _ _ _ (by intro e; injection e; omega), World.cell?_setCell_other _ _ _ _ (by intro e; injection e; omega), World.cell?_setCell_other _ _ _ _ (by intro e; injection e; omega), World.cell?_setCell_other _ _ _ _ (by intro e; injection e; omega)]
theorem setS_frozen {w : World} {A o : Nat} {x : SV} (a : Addr) : (setS w A o x).frozen? a = w.frozen? a := by
  unfold setS
  simp
theorem setS_size {w : World} {A o : Nat} {x : SV} : (setS w A o x).heap.size = w.heap.size := by
  unfold setS
  simp
theorem setS_only {w w0 : World} {A o : Nat} {x : SV} {S : List Nat} (h : Only S w0 w) (hA : A ∈ S ∨ w0.heap.size ≤ A) : Only S w0 (setS w A o x) := by
  unfold setS
  exact h |>.setCell hA _ |>.setCell hA _ |>.setCell hA _ |>.setCell hA _ |>.setCell hA _ |>.setCell hA _ |>.setCell hA _ |>.setCell hA _ |>.setCell hA _
theorem setS_at {w : World} {A o : Nat} {x y : SV} (h : SAt w A o y) : SAt (setS w A o x) A o x := by
  unfold setS
  refine ⟨?_, ?_, ?_, ?_, ?_, ?_, ?_, ?_, ?_⟩
  · rw [World.cell?_setCell_other _ _ _ _ (by intro e; injection e; omega), World.cell?_setCell_other _ _ _ _ (by intro e; injection e; omega), World.cell?_setCell_other _ _ _ _ (by intro e; injection e; omega), World.cell?_setCell_other _ _ _ _ (by intro e; injection e; omega), World.cell?_setCell_other _ _ _ _ (by intro e; injection e; omega), World.cell?_setCell_other _ _ _ _ (by intro e; injection e; omega), World.cell?_setCell_other _ _ _ _ (by intro e; injection e; omega), World.cell?_setCell_other _ _ _ _ (by intro e; injection e; omega)]
    refine same_of ?_
    rw [h.c0]; rfl
  · rw [World.cell?_setCell_other _ _ _ _ (by intro e; injection e; omega), World.cell?_setCell_other _ _ _ _ (by intro e; injection e; omega), World.cell?_setCell_other _ _ _ _ (by intro e; injection e; omega), World.cell?_setCell_other _ _ _ _ (by intro e; injection e; omega), World.cell?_setCell_other _ _ _ _ (by intro e; injection e; omega), World.cell?_setCell_other _ _ _ _ (by intro e; injection e; omega), World.cell?_setCell_other _ _ _ _ (by intro e; injection e; omega)]
    refine same_of ?_
    rw [World.cell?_setCell_other _ _ _ _ (by intro e; injection e; omega)]
    rw [h.c1]; rfl
  · rw [World.cell?_setCell_other _ _ _ _ (by intro e; injection e; omega), World.cell?_setCell_other _ _ _ _ (by intro e; injection e; omega), World.cell?_setCell_other _ _ _ _ (by intro e; injection e; omega), World.cell?_setCell_other _ _ _ _ (by intro e; injection e; omega), World.cell?_setCell_other _ _ _ _ (by intro e; injection e; omega), World.cell?_setCell_other _ _ _ _ (by intro e; injection e; omega)]
    refine same_of ?_
    rw [World.cell?_setCell_other _ _ _ _ (by intro e; injection e; omega), World.cell?_setCell_other _ _ _ _ (by intro e; injection e; omega)]
    rw [h.c2]; rfl
  · rw [World.cell?_setCell_other _ _ _ _ (by intro e; injection e; omega), World.cell?_setCell_other _ _ _ _ (by intro e; injection e; omega), World.cell?_setCell_other _ _ _ _ (by intro e; injection e; omega), World.cell?_setCell_other _ _ _ _ (by intro e; injection e; omega), World.cell?_setCell_other _ _ _ _ (by intro e; injection e; omega)]
    refine same_of ?_
    rw [World.cell?_setCell_other _ _ _ _ (by intro e; injection e; omega), World.cell?_setCell_other _ _ _ _ (by intro e; injection e; omega), World.cell?_setCell_other _ _ _ _ (by intro e; injection e; omega)]
    rw [h.c3]; rfl
  · rw [World.cell?_setCell_other _ _ _ _ (by intro e; injection e; omega), World.cell?_setCell_other _ _ _ _ (by intro e; injection e; omega), World.cell?_setCell_other _ _ _ _ (by intro e; injection e; omega), World.cell?_setCell_other _ _ _ _ (by intro e; injection e; omega)]
    refine same_of ?_
    rw [World.cell?_setCell_other _ _ _ _ (by intro e; injection e; omega), World.cell?_setCell_other _ _ _ _ (by intro e; injection e; omega), World.cell?_setCell_other _ _ _ _ (by intro e; injection e; omega), World.cell?_setCell_other _ _ _ _ (by intro e; injection e; omega)]
    rw [h.c4]; rfl
  · rw [World.cell?_setCell_other _ _ _ _ (by intro e; injection e; omega), World.cell?_setCell_other _ _ _ _ (by intro e; injection e; omega), World.cell?_setCell_other _ _ _ _ (by intro e; injection e; omega)]
    refine same_of ?_
    rw [World.cell?_setCell_other _ _ _ _ (by intro e; injection e; omega), World.cell?_setCell_other _ _ _ _ (by intro e; injection e; omega), World.cell?_setCell_other _ _ _ _ (by intro e; injection e; omega), World.cell?_setCell_other _ _ _ _ (by intro e; injection e; omega), World.cell?_setCell_other _ _ _ _ (by intro e; injection e; omega)]
    rw [h.c5]; rfl
  · rw [World.cell?_setCell_other _ _ _ _ (by intro e; injection e; omega), World.cell?_setCell_other _ _ _ _ (by intro e; injection e; omega)]
    refine same_of ?_
    rw [World.cell?_setCell_other _ _ _ _ (by intro e; injection e; omega), World.cell?_setCell_other _ _ _ _ (by intro e; injection e; omega), World.cell?_setCell_other _ _ _ _ (by intro e; injection e; omega), World.cell?_setCell_other _ _ _ _ (by intro e; injection e; omega), World.cell?_setCell_other _ _ _ _ (by intro e; injection e; omega), World.cell?_setCell_other _ _ _ _ (by intro e; injection e; omega)]
    rw [h.c6]; rfl
  · rw [World.cell?_setCell_other _ _ _ _ (by intro e; injection e; omega)]
    refine same_of ?_
    rw [World.cell?_setCell_other _ _ _ _ (by intro e; injection e; omega), World.cell?_setCell_other _ _ _ _ (by intro e; injection e; omega), World.cell?_setCell_other _ _ _ _ (by intro e; injection e; omega), World.cell?_setCell_other _ _ _ _ (by intro e; injection e; omega), World.cell?_setCell_other _ _ _ _ (by intro e; injection e; omega), World.cell?_setCell_other _ _ _ _ (by intro e; injection e; omega), World.cell?_setCell_other _ _ _ _ (by intro e; injection e; omega)]
    rw [h.c7]; rfl
  · refine same_of ?_
    rw [World.cell?_setCell_other _ _ _ _ (by intro e; injection e; omega), World.cell?_setCell_other _ _ _ _ (by intro e; injection e; omega), World.cell?_setCell_other _ _ _ _ (by intro e; injection e; omega), World.cell?_setCell_other _ _ _ _ (by intro e; injection e; omega), World.cell?_setCell_other _ _ _ _ (by intro e; injection e; omega), World.cell?_setCell_other _ _ _ _ (by intro e; injection e; omega), World.cell?_setCell_other _ _ _ _ (by intro e; injection e; omega), World.cell?_setCell_other _ _ _ _ (by intro e; injection e; omega)]
    rw [h.c8]; rfl
theorem info_p : (Try.prog.info? 30).map (·.size) = some 10 := by kernel_rfl
theorem info_s : (Try.prog.info? 28).map (·.size) = some 9 := by kernel_rfl
/-- A struct is stored at cells that are there. -/
theorem wpList_store_set {P : Program} {w w' : World} {ops : Array Oper} {rest : List Oper} {o : Oper} {a : Act} {Q : Exit → Act → World → Prop} (hg : o.guard = none) (t : TypeId) (x y : Operand) (ho : o.op = .store t x y)
    (A off : Nat) (cs : Array Value) (hx : a.eval x = .pointer (some ⟨A, off, none⟩)) (hy : a.eval y = .agg cs) (hi : (P.info? t).map (·.size) = some cs.size)
    (hc : ∀ j, j < cs.toList.length → (w.cell? ⟨A, off + 0 + j, none⟩).isSome = true) (hf : ∀ j, j < cs.toList.length → w.frozen? ⟨A, off + 0 + j, none⟩ = false) (h1 : ∀ v ∈ cs.toList, v.oneCell' = true)
    (hw : w' = w.setCells A (off + 0) cs.toList) (h : wpList P ops Q rest (a.put o.dst undef) w') : wpList P ops Q (o :: rest) a w := by
  subst hw
  refine wpList_plain hg fun K hK => ?_
  have hst := run_storeCells_cells (P := P) A off cs.toList 0 w hc hf h1
  unfold Oper.wp execOp
  cases hq : P.info? t with
  | none => simp [hq] at hi
  | some i =>
    have hs : cs.size = i.size := by simp [hq] at hi; omega
    simp only [ho, hx, hy, Instr.storeAt, Instr.sureAddr, Sem.run_bind, Sem.run_pure, Result.andThen_ok]
    simp [storeVar, sizeOf, typeInfo, hq, Value.cells, hs, hst, Result.andThen]
    exact hK _ _ (by simpa using h)
theorem wstore_p {w : World} {ops : Array Oper} {rest : List Oper} {o : Oper} {a : Act} {Q : Exit → Act → World → Prop} (hg : o.guard = none) (x y : Operand) (ho : o.op = .store 30 x y) (A off : Nat) (p q : PV)
    (hx : a.eval x = .pointer (some ⟨A, off, none⟩)) (hy : a.eval y = pV p) (hq : PAt w A off q) (hf : ∀ o, w.frozen? ⟨A, o, none⟩ = false) (h : ∀ w', w' = setP w A off p → wpList Try.prog ops Q rest (a.put o.dst undef) w') : wpList Try.prog ops Q (o :: rest) a w := by
  refine wpList_store_set hg 30 x y ho A off _ hx hy info_p (fun j hj => ?_) (fun j _ => hf _) (fun v hv => ?_) rfl (h _ rfl)
  · have hj' : j < 10 := by simpa using hj
    obtain rfl | rfl | rfl | rfl | rfl | rfl | rfl | rfl | rfl | rfl : j = 0 ∨ j = 1 ∨ j = 2 ∨ j = 3 ∨ j = 4 ∨ j = 5 ∨ j = 6 ∨ j = 7 ∨ j = 8 ∨ j = 9 := by omega
    · exact Option.isSome_iff_exists.2 ⟨_, hq.c0⟩
    · exact Option.isSome_iff_exists.2 ⟨_, hq.c1⟩
    · exact Option.isSome_iff_exists.2 ⟨_, hq.c2⟩
    · exact Option.isSome_iff_exists.2 ⟨_, hq.c3⟩
    · exact Option.isSome_iff_exists.2 ⟨_, hq.c4⟩
    · exact Option.isSome_iff_exists.2 ⟨_, hq.c5⟩
    · exact Option.isSome_iff_exists.2 ⟨_, hq.c6⟩
    · exact Option.isSome_iff_exists.2 ⟨_, hq.c7⟩
    · exact Option.isSome_iff_exists.2 ⟨_, hq.c8⟩
    · exact Option.isSome_iff_exists.2 ⟨_, hq.c9⟩
  · simp at hv
    rcases hv with h | h | h | h | h | h | h | h | h | h <;> (subst h; rfl)
theorem wstore_s {w : World} {ops : Array Oper} {rest : List Oper} {o : Oper} {a : Act} {Q : Exit → Act → World → Prop} (hg : o.guard = none) (x y : Operand) (ho : o.op = .store 28 x y) (A off : Nat) (p q : SV)
    (hx : a.eval x = .pointer (some ⟨A, off, none⟩)) (hy : a.eval y = sV p) (hq : SAt w A off q) (hf : ∀ o, w.frozen? ⟨A, o, none⟩ = false) (h : ∀ w', w' = setS w A off p → wpList Try.prog ops Q rest (a.put o.dst undef) w') : wpList Try.prog ops Q (o :: rest) a w := by
  refine wpList_store_set hg 28 x y ho A off _ hx hy info_s (fun j hj => ?_) (fun j _ => hf _) (fun v hv => ?_) rfl (h _ rfl)
  · have hj' : j < 9 := by simpa using hj
    obtain rfl | rfl | rfl | rfl | rfl | rfl | rfl | rfl | rfl : j = 0 ∨ j = 1 ∨ j = 2 ∨ j = 3 ∨ j = 4 ∨ j = 5 ∨ j = 6 ∨ j = 7 ∨ j = 8 := by omega
    · exact Option.isSome_iff_exists.2 ⟨_, hq.c0⟩
    · exact Option.isSome_iff_exists.2 ⟨_, hq.c1⟩
    · exact Option.isSome_iff_exists.2 ⟨_, hq.c2⟩
    · exact Option.isSome_iff_exists.2 ⟨_, hq.c3⟩
    · exact Option.isSome_iff_exists.2 ⟨_, hq.c4⟩
    · exact Option.isSome_iff_exists.2 ⟨_, hq.c5⟩
    · exact Option.isSome_iff_exists.2 ⟨_, hq.c6⟩
    · exact Option.isSome_iff_exists.2 ⟨_, hq.c7⟩
    · exact Option.isSome_iff_exists.2 ⟨_, hq.c8⟩
  · simp at hv
    rcases hv with h | h | h | h | h | h | h | h | h <;> (subst h; rfl)
def updN {α : Type} (P : Nat → α) (K : Nat) (x : α) : Nat → α := fun i => if i = K then x else P i
theorem updN_same {α : Type} (P : Nat → α) (K : Nat) (x : α) : updN P K x K = x := by simp [updN]
theorem updN_other {α : Type} (P : Nat → α) {K i : Nat} (x : α) (h : i ≠ K) : updN P K x i = P i := by simp [updN, h]
section
variable {w : World} {A1 A2 A3 A4 : Nat} {P : Nat → PV} {Q : Nat → SV} {kn th : Nat → Bool}
theorem Mem.setP (h : Mem w A1 A2 A3 A4 P Q kn th) {K : Nat} (hK : K < 4) (x : PV) : Mem (setP w A1 (K * 10) x) A1 A2 A3 A4 (updN P K x) Q kn th := by
  obtain ⟨n1, n2, n3⟩ := h.ne
  refine ⟨fun i hi => ?_, fun i hi => ?_, fun i hi => ?_, fun i hi => ?_, fun o => (setP_frozen _).trans (h.f1 o), fun o => (setP_frozen _).trans (h.f2 o), fun o => (setP_frozen _).trans (h.f3 o), fun o => (setP_frozen _).trans (h.f4 o), by rw [setP_size]; exact h.l1, by rw [setP_size]; exact h.l2, by rw [setP_size]; exact h.l3, by rw [setP_size]; exact h.l4, h.ne⟩
  · by_cases e : i = K
    · subst e; rw [updN_same]; exact setP_at (h.p i hi)
    · rw [updN_other _ _ e]
      have a := h.p i hi
      exact ⟨(setP_far (by omega)).trans a.c0, (setP_far (by omega)).trans a.c1, (setP_far (by omega)).trans a.c2, (setP_far (by omega)).trans a.c3, (setP_far (by omega)).trans a.c4, (setP_far (by omega)).trans a.c5, (setP_far (by omega)).trans a.c6, (setP_far (by omega)).trans a.c7, (setP_far (by omega)).trans a.c8, (setP_far (by omega)).trans a.c9⟩
  · have a := h.q i hi
    exact ⟨(setP_far (by omega)).trans a.c0, (setP_far (by omega)).trans a.c1, (setP_far (by omega)).trans a.c2, (setP_far (by omega)).trans a.c3, (setP_far (by omega)).trans a.c4, (setP_far (by omega)).trans a.c5, (setP_far (by omega)).trans a.c6, (setP_far (by omega)).trans a.c7, (setP_far (by omega)).trans a.c8⟩
  · exact (setP_far (by omega)).trans (h.k i hi)
  · exact (setP_far (by omega)).trans (h.t i hi)
theorem Mem.setS (h : Mem w A1 A2 A3 A4 P Q kn th) {K : Nat} (hK : K < 4) (x : SV) : Mem (setS w A2 (K * 9) x) A1 A2 A3 A4 P (updN Q K x) kn th := by
  obtain ⟨n1, n2, n3⟩ := h.ne
  refine ⟨fun i hi => ?_, fun i hi => ?_, fun i hi => ?_, fun i hi => ?_, fun o => (setS_frozen _).trans (h.f1 o), fun o => (setS_frozen _).trans (h.f2 o), fun o => (setS_frozen _).trans (h.f3 o), fun o => (setS_frozen _).trans (h.f4 o), by rw [setS_size]; exact h.l1, by rw [setS_size]; exact h.l2, by rw [setS_size]; exact h.l3, by rw [setS_size]; exact h.l4, h.ne⟩
  · have a := h.p i hi
    exact ⟨(setS_far (by omega)).trans a.c0, (setS_far (by omega)).trans a.c1, (setS_far (by omega)).trans a.c2, (setS_far (by omega)).trans a.c3, (setS_far (by omega)).trans a.c4, (setS_far (by omega)).trans a.c5, (setS_far (by omega)).trans a.c6, (setS_far (by omega)).trans a.c7, (setS_far (by omega)).trans a.c8, (setS_far (by omega)).trans a.c9⟩
  · by_cases e : i = K
    · subst e; rw [updN_same]; exact setS_at (h.q i hi)
    · rw [updN_other _ _ e]
      have a := h.q i hi
      exact ⟨(setS_far (by omega)).trans a.c0, (setS_far (by omega)).trans a.c1, (setS_far (by omega)).trans a.c2, (setS_far (by omega)).trans a.c3, (setS_far (by omega)).trans a.c4, (setS_far (by omega)).trans a.c5, (setS_far (by omega)).trans a.c6, (setS_far (by omega)).trans a.c7, (setS_far (by omega)).trans a.c8⟩
  · exact (setS_far (by omega)).trans (h.k i hi)
  · exact (setS_far (by omega)).trans (h.t i hi)
theorem Mem.setK (h : Mem w A1 A2 A3 A4 P Q kn th) {K : Nat} (hK : K < 4) : Mem (w.setCell ⟨A3, K, none⟩ (.bool true)) A1 A2 A3 A4 P Q (updN kn K true) th := by
  obtain ⟨n1, n2, n3⟩ := h.ne
  have far : ∀ B c, (B ≠ A3 ∨ c ≠ K) → (w.setCell ⟨A3, K, none⟩ (.bool true)).cell? ⟨B, c, none⟩ = w.cell? ⟨B, c, none⟩ := fun B c hn => World.cell?_setCell_other _ _ _ _ (by intro e; injection e; omega)
  refine ⟨fun i hi => ?_, fun i hi => ?_, fun i hi => ?_, fun i hi => ?_, fun o => by simpa using h.f1 o, fun o => by simpa using h.f2 o, fun o => by simpa using h.f3 o, fun o => by simpa using h.f4 o, by simpa using h.l1, by simpa using h.l2, by simpa using h.l3, by simpa using h.l4, h.ne⟩
  · have a := h.p i hi
    exact ⟨(far _ _ (by omega)).trans a.c0, (far _ _ (by omega)).trans a.c1, (far _ _ (by omega)).trans a.c2, (far _ _ (by omega)).trans a.c3, (far _ _ (by omega)).trans a.c4, (far _ _ (by omega)).trans a.c5, (far _ _ (by omega)).trans a.c6, (far _ _ (by omega)).trans a.c7, (far _ _ (by omega)).trans a.c8, (far _ _ (by omega)).trans a.c9⟩
  · have a := h.q i hi
    exact ⟨(far _ _ (by omega)).trans a.c0, (far _ _ (by omega)).trans a.c1, (far _ _ (by omega)).trans a.c2, (far _ _ (by omega)).trans a.c3, (far _ _ (by omega)).trans a.c4, (far _ _ (by omega)).trans a.c5, (far _ _ (by omega)).trans a.c6, (far _ _ (by omega)).trans a.c7, (far _ _ (by omega)).trans a.c8⟩
  · by_cases e : i = K
    · subst e; rw [updN_same]; exact World.cell?_setCell_same _ _ _ (h.k i hi)
    · rw [updN_other _ _ e]; exact (far _ _ (.inr e)).trans (h.k i hi)
  · exact (far _ _ (by omega)).trans (h.t i hi)
theorem Mem.setT (h : Mem w A1 A2 A3 A4 P Q kn th) {K : Nat} (hK : K < 4) : Mem (w.setCell ⟨A4, K, none⟩ (.bool true)) A1 A2 A3 A4 P Q kn (updN th K true) := by
  obtain ⟨n1, n2, n3⟩ := h.ne
  have far : ∀ B c, (B ≠ A4 ∨ c ≠ K) → (w.setCell ⟨A4, K, none⟩ (.bool true)).cell? ⟨B, c, none⟩ = w.cell? ⟨B, c, none⟩ := fun B c hn => World.cell?_setCell_other _ _ _ _ (by intro e; injection e; omega)
  refine ⟨fun i hi => ?_, fun i hi => ?_, fun i hi => ?_, fun i hi => ?_, fun o => by simpa using h.f1 o, fun o => by simpa using h.f2 o, fun o => by simpa using h.f3 o, fun o => by simpa using h.f4 o, by simpa using h.l1, by simpa using h.l2, by simpa using h.l3, by simpa using h.l4, h.ne⟩
  · have a := h.p i hi
    exact ⟨(far _ _ (by omega)).trans a.c0, (far _ _ (by omega)).trans a.c1, (far _ _ (by omega)).trans a.c2, (far _ _ (by omega)).trans a.c3, (far _ _ (by omega)).trans a.c4, (far _ _ (by omega)).trans a.c5, (far _ _ (by omega)).trans a.c6, (far _ _ (by omega)).trans a.c7, (far _ _ (by omega)).trans a.c8, (far _ _ (by omega)).trans a.c9⟩
  · have a := h.q i hi
    exact ⟨(far _ _ (by omega)).trans a.c0, (far _ _ (by omega)).trans a.c1, (far _ _ (by omega)).trans a.c2, (far _ _ (by omega)).trans a.c3, (far _ _ (by omega)).trans a.c4, (far _ _ (by omega)).trans a.c5, (far _ _ (by omega)).trans a.c6, (far _ _ (by omega)).trans a.c7, (far _ _ (by omega)).trans a.c8⟩
  · exact (far _ _ (by omega)).trans (h.k i hi)
  · by_cases e : i = K
    · subst e; rw [updN_same]; exact World.cell?_setCell_same _ _ _ (h.t i hi)
    · rw [updN_other _ _ e]; exact (far _ _ (.inr e)).trans (h.t i hi)
end
theorem Log.start : Log (fun _ => none) (fun _ => none) (fun _ => p0) (fun _ => s0) zb zb :=
  ⟨fun _ _ => rfl, fun _ _ => rfl, (fun _ _ x h => by cases h), (fun _ _ x h => by cases h), rfl⟩
theorem Log.pps {f : Int → Option SV} {g : Int → Option PV} {P : Nat → PV} {Q : Nat → SV} {kn th : Nat → Bool} (h : Log f g P Q kn th) {i o : Int} {K : Nat} (hK : i % 4 = K) :
    Log (putF f (true, i, o)) (putG g (true, i, o)) (updN P K (pK (i % 4) (o % 4))) Q (updN kn K true) th := by
  have hk4 : K < 4 := by omega
  have eF : putF f (true, i, o) = f := rfl
  have eG : putG g (true, i, o) = upd g (K : Int) (pK (K : Int) (o % 4)) := by rw [← hK]; rfl
  rw [eF, eG, hK]
  refine ⟨fun j hj => ?_, h.t, fun j hj x hx => ?_, h.q, ?_⟩
  · by_cases e : j = K
    · subst e; rw [updN_same, upd_same]; rfl
    · rw [updN_other _ _ e, upd_other g _ (by omega)]; exact h.k j hj
  · by_cases e : j = K
    · subst e; rw [upd_same] at hx; cases hx; rw [updN_same]; exact ⟨rfl, by simp only [pK]; omega, by simp only [pK]; omega⟩
    · rw [upd_other g _ (by omega)] at hx; rw [updN_other _ _ e]; exact h.p j hj x hx
  · rw [upd_other g _ (by omega)]
    exact h.g4
theorem Log.sps {f : Int → Option SV} {g : Int → Option PV} {P : Nat → PV} {Q : Nat → SV} {kn th : Nat → Bool} (h : Log f g P Q kn th) {i o : Int} {K : Nat} (hK : i % 4 = K) :
    Log (putF f (false, i, o)) (putG g (false, i, o)) P (updN Q K (sK (i % 4) (o % 17))) kn (updN th K true) := by
  have hk4 : K < 4 := by omega
  have eF : putF f (false, i, o) = upd f (K : Int) (sK (K : Int) (o % 17)) := by rw [← hK]; rfl
  have eG : putG g (false, i, o) = g := rfl
  rw [eF, eG, hK]
  refine ⟨h.k, fun j hj => ?_, h.p, fun j hj x hx => ?_, h.g4⟩
  · by_cases e : j = K
    · subst e; rw [updN_same, upd_same]; rfl
    · rw [updN_other _ _ e, upd_other f _ (by omega)]; exact h.t j hj
  · by_cases e : j = K
    · subst e; rw [upd_same] at hx; cases hx; rw [updN_same]
    · rw [upd_other f _ (by omega)] at hx; rw [updN_other _ _ e]; exact h.q j hj x hx
end Go.Proofs.Ytkcjehajmofhfaa
