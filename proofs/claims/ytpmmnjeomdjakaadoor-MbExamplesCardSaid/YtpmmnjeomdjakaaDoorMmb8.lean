/- The reference's small functions: within, ranged, absent, Coded, Inter, Size; the kit's CopyInts. -/
/- Lists that a call collects: of codes of blocks, of errors. -/
/- Which block, compared. -/
/- The program's Equal of macroblocks that differ, first field by first field. -/
import Derived.Test.YtpmmnjeomdjakaaDoorMmb7
import Derived.Test.YtpmmnjeomdjakaaDoorMmb4
import Derived.BigQuiet
section
set_option maxRecDepth 20000
namespace Go.Proofs.YtpmmnjeomdjakaaDoor
open Go.RowKit
set_option linter.unusedVariables false
set_option linter.unusedSimpArgs false

theorem rwithin13_any (n lo hi : Int) (w : World) : Calls Tryd.prog 38 #[.int .i64 n, .int .i64 lo, .int .i64 hi] w fun e w' => e = .returned (.bool (inI n lo hi)) ∧ w' = w := by
  unfold inI
  by_cases h1 : lo ≤ n
  · by_cases h2 : n ≤ hi
    · rw [decide_eq_true h1, decide_eq_true h2]
      go_enter Tryd.func38, Tryd.ntmps38
      go_wp2_with fail
      go_ret
      exact ⟨rfl, rfl⟩
    · rw [decide_eq_true h1, decide_eq_false h2]
      have d : decide (n ≤ hi) = false := decide_eq_false h2
      go_enter Tryd.func38, Tryd.ntmps38
      go_wp2_with fail
      go_ret
      exact ⟨rfl, rfl⟩
  · rw [decide_eq_false h1, Bool.false_and]
    go_enter Tryd.func38, Tryd.ntmps38
    go_wp2_with fail
    go_ret
    exact ⟨rfl, rfl⟩
theorem ranged_any (b : Bool) (w : World) : Calls Tryd.prog 67 #[.bool b] w fun e w' => e = .returned (.int .i64 (rngE b)) ∧ w' = w := by
  cases b
  all_goals
    go_enter Tryd.func67, Tryd.ntmps67
    go_wp2_with fail
    go_ret
    exact ⟨rfl, rfl⟩
theorem absent_any (b : Bool) (w : World) : Calls Tryd.prog 68 #[.bool b] w fun e w' => e = .returned (.int .i64 (absE b)) ∧ w' = w := by
  cases b
  all_goals
    go_enter Tryd.func68, Tryd.ntmps68
    go_wp2_with fail
    go_ret
    exact ⟨rfl, rfl⟩
theorem rcoded_any (k : Int) (w : World) : Calls Tryd.prog 55 #[.int .u8 k] w fun e w' => e = .returned (.bool (codedI k)) ∧ w' = w := by
  unfold codedI
  by_cases h1 : k ≤ 1
  · rw [decide_eq_true h1, Bool.true_or]
    go_enter Tryd.func55, Tryd.ntmps55
    go_wp2_with fail
    go_ret
    exact ⟨rfl, rfl⟩
  · rw [decide_eq_false h1, Bool.false_or]
    by_cases h2 : 3 ≤ k
    · rw [decide_eq_true h2, Bool.true_and]
      by_cases h3 : k ≤ 6
      · rw [decide_eq_true h3]
        go_enter Tryd.func55, Tryd.ntmps55
        go_wp2_with fail
        go_ret
        exact ⟨rfl, rfl⟩
      · rw [decide_eq_false h3]
        have d : decide (k ≤ 6) = false := decide_eq_false h3
        go_enter Tryd.func55, Tryd.ntmps55
        go_wp2_with fail
        go_ret
        exact ⟨rfl, rfl⟩
    · rw [decide_eq_false h2, Bool.false_and]
      go_enter Tryd.func55, Tryd.ntmps55
      go_wp2_with fail
      go_ret
      exact ⟨rfl, rfl⟩
theorem rinter_any (k : Int) (w : World) : Calls Tryd.prog 56 #[.int .u8 k] w fun e w' => e = .returned (.bool (interI k)) ∧ w' = w := by
  unfold interI
  by_cases h2 : 3 ≤ k
  · rw [decide_eq_true h2, Bool.true_and]
    by_cases h3 : k ≤ 6
    · rw [decide_eq_true h3]
      go_enter Tryd.func56, Tryd.ntmps56
      go_wp2_with fail
      go_ret
      exact ⟨rfl, rfl⟩
    · rw [decide_eq_false h3]
      have d : decide (k ≤ 6) = false := decide_eq_false h3
      go_enter Tryd.func56, Tryd.ntmps56
      go_wp2_with fail
      go_ret
      exact ⟨rfl, rfl⟩
  · rw [decide_eq_false h2, Bool.false_and]
    go_enter Tryd.func56, Tryd.ntmps56
    go_wp2_with fail
    go_ret
    exact ⟨rfl, rfl⟩
set_option maxHeartbeats 2000000 in
theorem rsize_any (c : Int) (w : World) (c0 : 0 ≤ c) (c1 : c ≤ 255) : Calls Tryd.prog 58 #[.int .u8 c] w fun e w' => e = .returned (.tuple #[.int .i64 (sizeI c).1, .int .i64 (sizeI c).2]) ∧ Only [] w w' := by
  by_cases h : c = 0 ∨ c = 1 ∨ c = 2 ∨ c = 3 ∨ c = 4
  · rcases h with rfl | rfl | rfl | rfl | rfl
    all_goals
      clear c0 c1
      go_enter Tryd.func58, Tryd.ntmps58
      go_wp2_with fail
      go_ret2
      exact ⟨rfl, (Only.refl [] w).alloc _⟩
  · have h5 : (5 : Int) ≤ c := by omega
    have e : sizeI c = (0, 3) := by
      unfold sizeI
      rw [if_neg (by omega), if_neg (by omega), if_neg (by omega), if_neg (by omega), if_neg (by omega)]
    rw [e]
    clear h e
    go_enter Tryd.func58, Tryd.ntmps58
    go_wp2_with fail
    go_ret2
    exact ⟨rfl, (Only.refl [] w).alloc _⟩
/-- A copy: new memory. -/
theorem copyints_any (b : Value) (vs : List Int) (w : World) (hb : HoldsI .i64 w b vs) (hl : vs.length ≤ 1000000000) :
    Calls Tryd.prog 26 #[b] w fun e w' => ∃ sv, e = .returned sv ∧ RowI w' sv vs ∧ (∀ g, g ∈ ownI sv → w.heap.size ≤ g) ∧ Only [] w w' := by
  obtain ⟨sv, w2, hrun, hrow, honly, hown⟩ := append_copyI w b vs hb hl
  have RUN := hid hrun
  have ROW := hid hrow
  have ON := hid honly
  have OW := hid hown
  clear hrun hrow honly hown hb hl
  go_enter Tryd.func26, Tryd.ntmps26
  go_wp2_with (at_builtin; refine wp_append_eq (by kernel_rfl) (.const (.slice none 0 0)) (.tmp 3) _ _ rfl (.slice none 0 0) _ sv w2 rfl rfl RUN.out ?_; simp only [Act.put, List.setIfInBounds_toArray, List.set_cons_zero, List.set_cons_succ])
  go_ret
  exact ⟨_, rfl, ROW.out, OW.out, ON.out⟩
end Go.Proofs.YtpmmnjeomdjakaaDoor

end
section
set_option maxRecDepth 20000
namespace Go.Proofs.YtpmmnjeomdjakaaDoor
open Go.RowKit
set_option linter.unusedVariables false
set_option linter.unusedSimpArgs false

/-- A slice that a call collects from the world w0 on. -/
structure ColG {α : Type} (C : α → List Value) (n : Nat) (E : TypeId) (w0 w : World) (sv : Value) (l : List α) : Prop where
  row : RowG C n E w sv l
  new : ∀ g, g ∈ ownG sv → w0.heap.size ≤ g
  only : Only [] w0 w
section
variable {α : Type} {C : α → List Value} {n : Nat} {E : TypeId} {w0 w w' : World} {sv : Value} {l : List α}
theorem ColG.nil (w : World) : ColG C n E w w (.slice none 0 0) [] := ⟨RowG.nil w, by simp [ownG, Value.ownBlock], Only.refl _ _⟩
theorem ColG.step (h : ColG C n E w0 w sv l) (o : Only [] w w') : ColG C n E w0 w' sv l := ⟨h.row.only o (by simp), h.new, h.only.trans o⟩
theorem ColG.app1 {P : Program} {T : TypeId} {z : Value} {bytes : Nat} (K : CellsN C n) (H : RowType P T E z n bytes) (h : ColG C n E w0 w sv l) (x : α) (hl : l.length + 1 ≤ 1000000) :
    ∃ sv2 w2, (Builtin.append_ #[T, T] T #[sv, .slice (some ⟨w.heap.size, 0, none⟩) 1 1]).run P (w.alloc (.cells (C x).toArray E)) = .ok sv2 w2 ∧ ColG C n E w0 w2 sv2 (l ++ [x]) := by
  obtain ⟨sv2, w2, hrun, hrow, honly, hown⟩ := append_oneG K H sv l x h.row hl
  exact ⟨sv2, w2, hrun, hrow, fun g hg => (hown g hg).elim (h.new g) (fun q => Nat.le_trans h.only.size q), h.only.trans2 honly (fun y hy => .inr (h.new y hy))⟩
/-- Some that lie in one block. -/
theorem ColG.appL {P : Program} {T : TypeId} {z : Value} {bytes : Nat} (K : CellsN C n) (H : RowType P T E z n bytes) (h : ColG C n E w0 w sv l) (xs : List α) (hl : l.length + xs.length ≤ 1000000) :
    ∃ sv2 w2, (Builtin.append_ #[T, T] T #[sv, .slice (some ⟨w.heap.size, 0, none⟩) xs.length xs.length]).run P (w.alloc (.cells (cellsG C xs).toArray E)) = .ok sv2 w2 ∧ ColG C n E w0 w2 sv2 (l ++ xs) := by
  have oa : Only [] w (w.alloc (.cells (cellsG C xs).toArray E)) := (Only.refl [] w).alloc _
  have h2 := h.step oa
  obtain ⟨sv2, w2, hrun, hrow, honly, hown⟩ := append_rowsG (w := w.alloc (.cells (cellsG C xs).toArray E)) K H sv _ l xs h2.row (holdsG_lit K w E xs (by unfold maxLen; omega)) hl
  exact ⟨sv2, w2, hrun, hrow, fun g hg => (hown g hg).elim (h.new g) (fun q => Nat.le_trans h2.only.size q), h2.only.trans2 honly (fun y hy => .inr (h.new y hy))⟩
/-- A slice behind it. -/
theorem ColG.appS {P : Program} {T : TypeId} {z : Value} {bytes : Nat} (K : CellsN C n) (H : RowType P T E z n bytes) (h : ColG C n E w0 w sv l) (b : Value) (xs : List α) (hb : HoldsG C n w b xs) (hl : l.length + xs.length ≤ 1000000) :
    ∃ sv2 w2, (Builtin.append_ #[T, T] T #[sv, b]).run P w = .ok sv2 w2 ∧ ColG C n E w0 w2 sv2 (l ++ xs) := by
  obtain ⟨sv2, w2, hrun, hrow, honly, hown⟩ := append_rowsG K H sv b l xs h.row hb hl
  exact ⟨sv2, w2, hrun, hrow, fun g hg => (hown g hg).elim (h.new g) (fun q => Nat.le_trans h.only.size q), h.only.trans2 honly (fun y hy => .inr (h.new y hy))⟩
end
/-- A slice that a call goes on with from the world w0 on: what lies in S may be its own. -/
structure ColS {α : Type} (C : α → List Value) (n : Nat) (E : TypeId) (S : List Nat) (w0 w : World) (sv : Value) (l : List α) : Prop where
  row : RowG C n E w sv l
  new : ∀ g, g ∈ ownG sv → g ∈ S ∨ w0.heap.size ≤ g
  only : Only S w0 w
section
variable {α : Type} {C : α → List Value} {n : Nat} {E : TypeId} {S : List Nat} {w0 w1 w w' : World} {sv sv' : Value} {l l' : List α}
theorem ColS.start (h : ColG C n E w0 w sv l) : ColS C n E (ownG sv) w w sv l := ⟨h.row, fun g hg => .inl hg, Only.refl _ _⟩
theorem ColS.back (h0 : ColG C n E w0 w1 sv l) (h : ColS C n E (ownG sv) w1 w' sv' l') : ColG C n E w0 w' sv' l' :=
  ⟨h.row, fun g hg => (h.new g hg).elim (h0.new g) (fun q => Nat.le_trans h0.only.size q), h0.only.trans2 h.only (fun y hy => .inr (h0.new y hy))⟩
theorem ColS.step (h : ColS C n E S w0 w sv l) (o : Only [] w w') : ColS C n E S w0 w' sv l := ⟨h.row.only o (by simp), h.new, h.only.trans (o.mono (fun _ _ h => by cases h))⟩
theorem ColS.app1 {P : Program} {T : TypeId} {z : Value} {bytes : Nat} (K : CellsN C n) (H : RowType P T E z n bytes) (h : ColS C n E S w0 w sv l) (x : α) (hl : l.length + 1 ≤ 1000000) :
    ∃ sv2 w2, (Builtin.append_ #[T, T] T #[sv, .slice (some ⟨w.heap.size, 0, none⟩) 1 1]).run P (w.alloc (.cells (C x).toArray E)) = .ok sv2 w2 ∧ ColS C n E S w0 w2 sv2 (l ++ [x]) := by
  obtain ⟨sv2, w2, hrun, hrow, honly, hown⟩ := append_oneG K H sv l x h.row hl
  exact ⟨sv2, w2, hrun, hrow, fun g hg => (hown g hg).elim (h.new g) (fun q => .inr (Nat.le_trans h.only.size q)), h.only.trans2 honly (fun y hy => h.new y hy)⟩
end
theorem rowG_lit {α : Type} {C : α → List Value} {n : Nat} (K : CellsN C n) (w : World) (E : TypeId) (l : List α) (hl : l.length ≤ maxLen) : RowG C n E (w.alloc (.cells (cellsG C l).toArray E)) (.slice (some ⟨w.heap.size, 0, none⟩) l.length l.length) l :=
  ⟨cellsG_length K l, .inr ⟨w.heap.size, l.length, (cellsG C l).toArray, rfl, Nat.zero_le _, heap_alloc_new w _, Nat.le_refl _, hl, by simp [cellsG_length K], by rw [List.take_of_length_le (by simp [cellsG_length K])]⟩⟩
theorem colG_lit {α : Type} {C : α → List Value} {n : Nat} {w0 : World} (K : CellsN C n) (w : World) (E : TypeId) (l : List α) (hl : l.length ≤ maxLen) (o : Only [] w0 w) : ColG C n E w0 (w.alloc (.cells (cellsG C l).toArray E)) (.slice (some ⟨w.heap.size, 0, none⟩) l.length l.length) l :=
  ⟨rowG_lit K w E l hl, fun g hg => by simp [ownG, Value.ownBlock] at hg; subst hg; exact o.size, o.alloc _⟩
/-- Codes of blocks. -/
def cdC (x : Cod) : List Value := [.int .u8 x.1, .int .u8 x.2.1, .int .i64 x.2.2]
def cdV (x : Cod) : Value := .agg (cdC x).toArray
theorem cdC_ok : CellsN cdC 3 := ⟨fun _ => rfl, fun x u h => by simp [cdC] at h; rcases h with h | h | h <;> (subst h; rfl), by omega⟩
theorem cd_row : RowType Tryd.prog 49 40 (.agg #[.int .u8 0, .int .u8 0, .int .i64 0]) 3 16 := ⟨by kernel_rfl, by kernel_rfl, rfl, by omega⟩
theorem run_cd1 (a : Cod) (w : World) : (Instr.buildSlice 49 1 #[(0, cdV a)]).run Tryd.prog w = .ok (.slice (some ⟨w.heap.size, 0, none⟩) 1 1) (w.alloc (.cells (cdC a).toArray 40)) := by kernel_rfl
theorem run_cd2 (a b : Cod) (w : World) : (Instr.buildSlice 49 2 #[(0, cdV a), (1, cdV b)]).run Tryd.prog w = .ok (.slice (some ⟨w.heap.size, 0, none⟩) 2 2) (w.alloc (.cells (cellsG cdC [a, b]).toArray 40)) := by kernel_rfl
abbrev ColC (w0 w : World) (sv : Value) (l : List Cod) : Prop := ColG cdC 3 40 w0 w sv l
theorem ColC.one {w0 w : World} {sv : Value} {l : List Cod} (h : ColC w0 w sv l) (x : Cod) (hl : l.length + 1 ≤ 1000000) : ∃ sv2 w2, (Builtin.append_ #[49, 49] 49 #[sv, .slice (some ⟨w.heap.size, 0, none⟩) 1 1]).run Tryd.prog (w.alloc (.cells (cdC x).toArray 40)) = .ok sv2 w2 ∧ ColC w0 w2 sv2 (l ++ [x]) := h.app1 cdC_ok cd_row x hl
theorem ColC.two {w0 w : World} {sv : Value} {l : List Cod} (h : ColC w0 w sv l) (x y : Cod) (hl : l.length + 2 ≤ 1000000) : ∃ sv2 w2, (Builtin.append_ #[49, 49] 49 #[sv, .slice (some ⟨w.heap.size, 0, none⟩) 2 2]).run Tryd.prog (w.alloc (.cells (cellsG cdC [x, y]).toArray 40)) = .ok sv2 w2 ∧ ColC w0 w2 sv2 (l ++ [x, y]) := h.appL cdC_ok cd_row [x, y] hl
/-- Errors. -/
def erC (x : Int) : List Value := [.int .i64 x]
theorem erC_ok : CellsN erC 1 := ⟨fun _ => rfl, fun x u h => by simp [erC] at h; subst h; rfl, by omega⟩
theorem er_row : RowType Tryd.prog 68 30 (.int .i64 0) 1 8 := ⟨by kernel_rfl, by kernel_rfl, rfl, by omega⟩
abbrev ColE (w0 w : World) (sv : Value) (l : List Int) : Prop := ColG erC 1 30 w0 w sv l
theorem ColE.one {w0 w : World} {sv : Value} {l : List Int} (h : ColE w0 w sv l) (x : Int) (hl : l.length + 1 ≤ 1000000) : ∃ sv2 w2, (Builtin.append_ #[68, 68] 68 #[sv, .slice (some ⟨w.heap.size, 0, none⟩) 1 1]).run Tryd.prog (w.alloc (.cells #[.int .i64 x] 30)) = .ok sv2 w2 ∧ ColE w0 w2 sv2 (l ++ [x]) := h.app1 erC_ok er_row x hl
end Go.Proofs.YtpmmnjeomdjakaaDoor

end
section
set_option maxRecDepth 20000
namespace Go.Proofs.YtpmmnjeomdjakaaDoor
open Go.RowKit
set_option linter.unusedVariables false
set_option linter.unusedSimpArgs false

theorem neq_cod (x y : Cod) (w : World) : (binOp .neq 40 (.agg #[.int .u8 x.1, .int .u8 x.2.1, .int .i64 x.2.2]) (.agg #[.int .u8 y.1, .int .u8 y.2.1, .int .i64 y.2.2])).run Tryd.prog w = .ok (.bool (!decide (x = y))) w := by
  obtain ⟨a, b, c⟩ := x
  obtain ⟨d, e, f⟩ := y
  go_simp
  by_cases h1 : a = d <;> by_cases h2 : b = e <;> by_cases h3 : c = f <;> simp [h1, h2, h3]
theorem eql_cod (x y : Cod) (w : World) : (binOp .eql 40 (.agg #[.int .u8 x.1, .int .u8 x.2.1, .int .i64 x.2.2]) (.agg #[.int .u8 y.1, .int .u8 y.2.1, .int .i64 y.2.2])).run Tryd.prog w = .ok (.bool (decide (x = y))) w := by
  obtain ⟨a, b, c⟩ := x
  obtain ⟨d, e, f⟩ := y
  go_simp
  by_cases h1 : a = d <;> by_cases h2 : b = e <;> by_cases h3 : c = f <;> simp [h1, h2, h3]
end Go.Proofs.YtpmmnjeomdjakaaDoor

end
section
set_option maxRecDepth 20000
namespace Go.Proofs.YtpmmnjeomdjakaaDoor
open Go.RowKit
set_option linter.unusedVariables false
set_option linter.unusedSimpArgs false

set_option maxRecDepth 100000 in
set_option maxHeartbeats 8000000 in
theorem peq_no_kind (x y : MV) (ra va ba rb vb bb : Value) (w : World) (hx : MAt w x ra va ba) (hy : MAt w y rb vb bb) (lx : MLen x) (ly : MLen y)  (ne : ¬ x.kind = y.kind) :
    Calls Tryd.prog 15 #[mV x ra va ba, mV y rb vb bb] w fun e w' => e = .returned (.bool false) ∧ Only [] w w' := by
  obtain ⟨kind, mode, chroma, pr, sb, refs, mvds, cbp, qp, blocks, pcm⟩ := x
  obtain ⟨kind', mode', chroma', pr', sb', refs', mvds', cbp', qp', blocks', pcm'⟩ := y
  dsimp only at *
  obtain ⟨W1, hW1⟩ : ∃ W, W = w.alloc (.cells (mC ⟨kind, mode, chroma, pr, sb, refs, mvds, cbp, qp, blocks, pcm⟩ ra va ba).toArray 28) := ⟨_, rfl⟩
  obtain ⟨W2, hW2⟩ : ∃ W, W = W1.alloc (.cells (mC ⟨kind', mode', chroma', pr', sb', refs', mvds', cbp', qp', blocks', pcm'⟩ rb vb bb).toArray 28) := ⟨_, rfl⟩
  obtain ⟨X, hX⟩ : ∃ X, X = w.heap.size := ⟨_, rfl⟩
  have hX1 : X + 1 = W1.heap.size := by rw [hW1, hX]; exact (World.size_alloc _ _).symm
  have o1 : Only [] w W1 := hW1 ▸ ((Only.refl [] w).alloc _)
  have o2 : Only [] W1 W2 := hW2 ▸ ((Only.refl [] W1).alloc _)
  have BA : Blk W2 X 28 (mC ⟨kind, mode, chroma, pr, sb, refs, mvds, cbp, qp, blocks, pcm⟩ ra va ba).toArray := by
    have := Blk.new w 28 (mC ⟨kind, mode, chroma, pr, sb, refs, mvds, cbp, qp, blocks, pcm⟩ ra va ba).toArray
    rw [← hW1, ← hX] at this
    exact this.only o2 (by simp)
  have BB : Blk W2 (X + 1) 28 (mC ⟨kind', mode', chroma', pr', sb', refs', mvds', cbp', qp', blocks', pcm'⟩ rb vb bb).toArray := by
    have := Blk.new W1 28 (mC ⟨kind', mode', chroma', pr', sb', refs', mvds', cbp', qp', blocks', pcm'⟩ rb vb bb).toArray
    rwa [← hW2, ← hX1] at this
  have BA0 := hid BA
  have BB0 := hid BB
  clear BA BB
  have HW1 := hid hW1
  have HW2 := hid hW2
  have HX := hid hX
  have HX1 := hid hX1
  have OW := hid (o1.trans o2)
  have NE := hid ne
  clear hX hX1 hW1 hW2 o1 o2 hx hy lx ly ne
  unfold mV
  go_enter Tryd.func15, Tryd.ntmps15
  go_upto_region 1 with (first
    | (refine wp_box rfl 28 (.tmp 0) rfl (mC ⟨kind, mode, chroma, pr, sb, refs, mvds, cbp, qp, blocks, pcm⟩ ra va ba).toArray rfl HW1.out HX.out ?_; simp only [Act.put, List.setIfInBounds_toArray, List.set_cons_zero, List.set_cons_succ])
    | (refine wp_box rfl 28 (.tmp 1) rfl (mC ⟨kind', mode', chroma', pr', sb', refs', mvds', cbp', qp', blocks', pcm'⟩ rb vb bb).toArray rfl HW2.out HX1.out ?_; simp only [Act.put, List.setIfInBounds_toArray, List.set_cons_zero, List.set_cons_succ]))
  simp only [List.append_eq, List.cons_append, List.nil_append]
  go_wp2_with (first
    | (refine wp_load_cell (by kernel_rfl) 5 (.tmp 5) rfl ⟨X, 0, none⟩ (.int .u8 kind) rfl (lc_u8 (BA0.out.cell (i := 0) rfl)) ?_; simp only [Act.put, List.setIfInBounds_toArray, List.set_cons_zero, List.set_cons_succ])
    | (refine wp_load_cell (by kernel_rfl) 5 (.tmp 7) rfl ⟨X + 1, 0, none⟩ (.int .u8 kind') rfl (lc_u8 (BB0.out.cell (i := 0) rfl)) ?_; simp only [Act.put, List.setIfInBounds_toArray, List.set_cons_zero, List.set_cons_succ]; refine HoldOn.out ?_))
  constructor
  refine wp_bin_eq (by kernel_rfl) .eql 5 (.tmp 6) (.tmp 8) _ rfl _ _ (.bool false) rfl rfl (g_u8 _ _ _ _ _) (ne_u8 _ NE.out) ?_
  refine wpList_skip_to 4 (.bool false) (by kernel_rfl) (fun a' ha hd => ?_)
  go_wp2_with fail
  refine bodyPost_ret (results_tmp rfl a'.tmps _ _) hd ?_
  exact ⟨by rw [ha], OW.out⟩
set_option maxRecDepth 100000 in
set_option maxHeartbeats 8000000 in
theorem peq_no_mode (x y : MV) (ra va ba rb vb bb : Value) (w : World) (hx : MAt w x ra va ba) (hy : MAt w y rb vb bb) (lx : MLen x) (ly : MLen y) (e0 : x.kind = y.kind) (ne : ¬ x.mode = y.mode) :
    Calls Tryd.prog 15 #[mV x ra va ba, mV y rb vb bb] w fun e w' => e = .returned (.bool false) ∧ Only [] w w' := by
  obtain ⟨kind, mode, chroma, pr, sb, refs, mvds, cbp, qp, blocks, pcm⟩ := x
  obtain ⟨kind', mode', chroma', pr', sb', refs', mvds', cbp', qp', blocks', pcm'⟩ := y
  dsimp only at *
  subst e0
  obtain ⟨W1, hW1⟩ : ∃ W, W = w.alloc (.cells (mC ⟨kind, mode, chroma, pr, sb, refs, mvds, cbp, qp, blocks, pcm⟩ ra va ba).toArray 28) := ⟨_, rfl⟩
  obtain ⟨W2, hW2⟩ : ∃ W, W = W1.alloc (.cells (mC ⟨kind, mode', chroma', pr', sb', refs', mvds', cbp', qp', blocks', pcm'⟩ rb vb bb).toArray 28) := ⟨_, rfl⟩
  obtain ⟨X, hX⟩ : ∃ X, X = w.heap.size := ⟨_, rfl⟩
  have hX1 : X + 1 = W1.heap.size := by rw [hW1, hX]; exact (World.size_alloc _ _).symm
  have o1 : Only [] w W1 := hW1 ▸ ((Only.refl [] w).alloc _)
  have o2 : Only [] W1 W2 := hW2 ▸ ((Only.refl [] W1).alloc _)
  have BA : Blk W2 X 28 (mC ⟨kind, mode, chroma, pr, sb, refs, mvds, cbp, qp, blocks, pcm⟩ ra va ba).toArray := by
    have := Blk.new w 28 (mC ⟨kind, mode, chroma, pr, sb, refs, mvds, cbp, qp, blocks, pcm⟩ ra va ba).toArray
    rw [← hW1, ← hX] at this
    exact this.only o2 (by simp)
  have BB : Blk W2 (X + 1) 28 (mC ⟨kind, mode', chroma', pr', sb', refs', mvds', cbp', qp', blocks', pcm'⟩ rb vb bb).toArray := by
    have := Blk.new W1 28 (mC ⟨kind, mode', chroma', pr', sb', refs', mvds', cbp', qp', blocks', pcm'⟩ rb vb bb).toArray
    rwa [← hW2, ← hX1] at this
  have BA0 := hid BA
  have BB0 := hid BB
  clear BA BB
  have HW1 := hid hW1
  have HW2 := hid hW2
  have HX := hid hX
  have HX1 := hid hX1
  have OW := hid (o1.trans o2)
  have NE := hid ne
  clear hX hX1 hW1 hW2 o1 o2 hx hy lx ly ne
  unfold mV
  go_enter Tryd.func15, Tryd.ntmps15
  go_upto_region 1 with (first
    | (refine wp_box rfl 28 (.tmp 0) rfl (mC ⟨kind, mode, chroma, pr, sb, refs, mvds, cbp, qp, blocks, pcm⟩ ra va ba).toArray rfl HW1.out HX.out ?_; simp only [Act.put, List.setIfInBounds_toArray, List.set_cons_zero, List.set_cons_succ])
    | (refine wp_box rfl 28 (.tmp 1) rfl (mC ⟨kind, mode', chroma', pr', sb', refs', mvds', cbp', qp', blocks', pcm'⟩ rb vb bb).toArray rfl HW2.out HX1.out ?_; simp only [Act.put, List.setIfInBounds_toArray, List.set_cons_zero, List.set_cons_succ]))
  simp only [List.append_eq, List.cons_append, List.nil_append]
  go_wp2_with (first
    | (refine wp_load_cell (by kernel_rfl) 5 (.tmp 5) rfl ⟨X, 0, none⟩ (.int .u8 kind) rfl (lc_u8 (BA0.out.cell (i := 0) rfl)) ?_; simp only [Act.put, List.setIfInBounds_toArray, List.set_cons_zero, List.set_cons_succ])
    | (refine wp_load_cell (by kernel_rfl) 5 (.tmp 7) rfl ⟨X + 1, 0, none⟩ (.int .u8 kind) rfl (lc_u8 (BB0.out.cell (i := 0) rfl)) ?_; simp only [Act.put, List.setIfInBounds_toArray, List.set_cons_zero, List.set_cons_succ])
    | (refine wp_load_cell (by kernel_rfl) 5 (.tmp 11) rfl ⟨X, 1, none⟩ (.int .u8 mode) rfl (lc_u8 (BA0.out.cell (i := 1) rfl)) ?_; simp only [Act.put, List.setIfInBounds_toArray, List.set_cons_zero, List.set_cons_succ])
    | (refine wp_load_cell (by kernel_rfl) 5 (.tmp 13) rfl ⟨X + 1, 1, none⟩ (.int .u8 mode') rfl (lc_u8 (BB0.out.cell (i := 1) rfl)) ?_; simp only [Act.put, List.setIfInBounds_toArray, List.set_cons_zero, List.set_cons_succ]; refine HoldOn.out ?_))
  constructor
  refine wp_bin_eq (by kernel_rfl) .eql 5 (.tmp 12) (.tmp 14) _ rfl _ _ (.bool false) rfl rfl (g_u8 _ _ _ _ _) (ne_u8 _ NE.out) ?_
  refine wpList_skip_to 4 (.bool false) (by kernel_rfl) (fun a' ha hd => ?_)
  go_wp2_with fail
  refine bodyPost_ret (results_tmp rfl a'.tmps _ _) hd ?_
  exact ⟨by rw [ha], OW.out⟩
set_option maxRecDepth 100000 in
set_option maxHeartbeats 8000000 in
theorem peq_no_chroma (x y : MV) (ra va ba rb vb bb : Value) (w : World) (hx : MAt w x ra va ba) (hy : MAt w y rb vb bb) (lx : MLen x) (ly : MLen y) (e0 : x.kind = y.kind) (e1 : x.mode = y.mode) (ne : ¬ x.chroma = y.chroma) :
    Calls Tryd.prog 15 #[mV x ra va ba, mV y rb vb bb] w fun e w' => e = .returned (.bool false) ∧ Only [] w w' := by
  obtain ⟨kind, mode, chroma, pr, sb, refs, mvds, cbp, qp, blocks, pcm⟩ := x
  obtain ⟨kind', mode', chroma', pr', sb', refs', mvds', cbp', qp', blocks', pcm'⟩ := y
  dsimp only at *
  subst e0 e1
  obtain ⟨W1, hW1⟩ : ∃ W, W = w.alloc (.cells (mC ⟨kind, mode, chroma, pr, sb, refs, mvds, cbp, qp, blocks, pcm⟩ ra va ba).toArray 28) := ⟨_, rfl⟩
  obtain ⟨W2, hW2⟩ : ∃ W, W = W1.alloc (.cells (mC ⟨kind, mode, chroma', pr', sb', refs', mvds', cbp', qp', blocks', pcm'⟩ rb vb bb).toArray 28) := ⟨_, rfl⟩
  obtain ⟨X, hX⟩ : ∃ X, X = w.heap.size := ⟨_, rfl⟩
  have hX1 : X + 1 = W1.heap.size := by rw [hW1, hX]; exact (World.size_alloc _ _).symm
  have o1 : Only [] w W1 := hW1 ▸ ((Only.refl [] w).alloc _)
  have o2 : Only [] W1 W2 := hW2 ▸ ((Only.refl [] W1).alloc _)
  have BA : Blk W2 X 28 (mC ⟨kind, mode, chroma, pr, sb, refs, mvds, cbp, qp, blocks, pcm⟩ ra va ba).toArray := by
    have := Blk.new w 28 (mC ⟨kind, mode, chroma, pr, sb, refs, mvds, cbp, qp, blocks, pcm⟩ ra va ba).toArray
    rw [← hW1, ← hX] at this
    exact this.only o2 (by simp)
  have BB : Blk W2 (X + 1) 28 (mC ⟨kind, mode, chroma', pr', sb', refs', mvds', cbp', qp', blocks', pcm'⟩ rb vb bb).toArray := by
    have := Blk.new W1 28 (mC ⟨kind, mode, chroma', pr', sb', refs', mvds', cbp', qp', blocks', pcm'⟩ rb vb bb).toArray
    rwa [← hW2, ← hX1] at this
  have BA0 := hid BA
  have BB0 := hid BB
  clear BA BB
  have HW1 := hid hW1
  have HW2 := hid hW2
  have HX := hid hX
  have HX1 := hid hX1
  have OW := hid (o1.trans o2)
  have NE := hid ne
  clear hX hX1 hW1 hW2 o1 o2 hx hy lx ly ne
  unfold mV
  go_enter Tryd.func15, Tryd.ntmps15
  go_upto_region 1 with (first
    | (refine wp_box rfl 28 (.tmp 0) rfl (mC ⟨kind, mode, chroma, pr, sb, refs, mvds, cbp, qp, blocks, pcm⟩ ra va ba).toArray rfl HW1.out HX.out ?_; simp only [Act.put, List.setIfInBounds_toArray, List.set_cons_zero, List.set_cons_succ])
    | (refine wp_box rfl 28 (.tmp 1) rfl (mC ⟨kind, mode, chroma', pr', sb', refs', mvds', cbp', qp', blocks', pcm'⟩ rb vb bb).toArray rfl HW2.out HX1.out ?_; simp only [Act.put, List.setIfInBounds_toArray, List.set_cons_zero, List.set_cons_succ]))
  simp only [List.append_eq, List.cons_append, List.nil_append]
  go_wp2_with (first
    | (refine wp_load_cell (by kernel_rfl) 5 (.tmp 5) rfl ⟨X, 0, none⟩ (.int .u8 kind) rfl (lc_u8 (BA0.out.cell (i := 0) rfl)) ?_; simp only [Act.put, List.setIfInBounds_toArray, List.set_cons_zero, List.set_cons_succ])
    | (refine wp_load_cell (by kernel_rfl) 5 (.tmp 7) rfl ⟨X + 1, 0, none⟩ (.int .u8 kind) rfl (lc_u8 (BB0.out.cell (i := 0) rfl)) ?_; simp only [Act.put, List.setIfInBounds_toArray, List.set_cons_zero, List.set_cons_succ])
    | (refine wp_load_cell (by kernel_rfl) 5 (.tmp 11) rfl ⟨X, 1, none⟩ (.int .u8 mode) rfl (lc_u8 (BA0.out.cell (i := 1) rfl)) ?_; simp only [Act.put, List.setIfInBounds_toArray, List.set_cons_zero, List.set_cons_succ])
    | (refine wp_load_cell (by kernel_rfl) 5 (.tmp 13) rfl ⟨X + 1, 1, none⟩ (.int .u8 mode) rfl (lc_u8 (BB0.out.cell (i := 1) rfl)) ?_; simp only [Act.put, List.setIfInBounds_toArray, List.set_cons_zero, List.set_cons_succ])
    | (refine wp_load_cell (by kernel_rfl) 5 (.tmp 18) rfl ⟨X, 2, none⟩ (.int .u8 chroma) rfl (lc_u8 (BA0.out.cell (i := 2) rfl)) ?_; simp only [Act.put, List.setIfInBounds_toArray, List.set_cons_zero, List.set_cons_succ])
    | (refine wp_load_cell (by kernel_rfl) 5 (.tmp 20) rfl ⟨X + 1, 2, none⟩ (.int .u8 chroma') rfl (lc_u8 (BB0.out.cell (i := 2) rfl)) ?_; simp only [Act.put, List.setIfInBounds_toArray, List.set_cons_zero, List.set_cons_succ]; refine HoldOn.out ?_))
  constructor
  refine wp_bin_eq (by kernel_rfl) .eql 5 (.tmp 19) (.tmp 21) _ rfl _ _ (.bool false) rfl rfl (g_u8 _ _ _ _ _) (ne_u8 _ NE.out) ?_
  refine wpList_skip_to 4 (.bool false) (by kernel_rfl) (fun a' ha hd => ?_)
  go_wp2_with fail
  refine bodyPost_ret (results_tmp rfl a'.tmps _ _) hd ?_
  exact ⟨by rw [ha], OW.out⟩
set_option maxRecDepth 100000 in
set_option maxHeartbeats 8000000 in
theorem peq_no_pr (x y : MV) (ra va ba rb vb bb : Value) (w : World) (hx : MAt w x ra va ba) (hy : MAt w y rb vb bb) (lx : MLen x) (ly : MLen y) (e0 : x.kind = y.kind) (e1 : x.mode = y.mode) (e2 : x.chroma = y.chroma) (ne : ¬ x.pr = y.pr) :
    Calls Tryd.prog 15 #[mV x ra va ba, mV y rb vb bb] w fun e w' => e = .returned (.bool false) ∧ Only [] w w' := by
  obtain ⟨kind, mode, chroma, pr, sb, refs, mvds, cbp, qp, blocks, pcm⟩ := x
  obtain ⟨kind', mode', chroma', pr', sb', refs', mvds', cbp', qp', blocks', pcm'⟩ := y
  dsimp only at *
  subst e0 e1 e2
  obtain ⟨W1, hW1⟩ : ∃ W, W = w.alloc (.cells (mC ⟨kind, mode, chroma, pr, sb, refs, mvds, cbp, qp, blocks, pcm⟩ ra va ba).toArray 28) := ⟨_, rfl⟩
  obtain ⟨W2, hW2⟩ : ∃ W, W = W1.alloc (.cells (mC ⟨kind, mode, chroma, pr', sb', refs', mvds', cbp', qp', blocks', pcm'⟩ rb vb bb).toArray 28) := ⟨_, rfl⟩
  obtain ⟨X, hX⟩ : ∃ X, X = w.heap.size := ⟨_, rfl⟩
  have hX1 : X + 1 = W1.heap.size := by rw [hW1, hX]; exact (World.size_alloc _ _).symm
  have o1 : Only [] w W1 := hW1 ▸ ((Only.refl [] w).alloc _)
  have o2 : Only [] W1 W2 := hW2 ▸ ((Only.refl [] W1).alloc _)
  have BA : Blk W2 X 28 (mC ⟨kind, mode, chroma, pr, sb, refs, mvds, cbp, qp, blocks, pcm⟩ ra va ba).toArray := by
    have := Blk.new w 28 (mC ⟨kind, mode, chroma, pr, sb, refs, mvds, cbp, qp, blocks, pcm⟩ ra va ba).toArray
    rw [← hW1, ← hX] at this
    exact this.only o2 (by simp)
  have BB : Blk W2 (X + 1) 28 (mC ⟨kind, mode, chroma, pr', sb', refs', mvds', cbp', qp', blocks', pcm'⟩ rb vb bb).toArray := by
    have := Blk.new W1 28 (mC ⟨kind, mode, chroma, pr', sb', refs', mvds', cbp', qp', blocks', pcm'⟩ rb vb bb).toArray
    rwa [← hW2, ← hX1] at this
  have BA0 := hid BA
  have BB0 := hid BB
  clear BA BB
  have HW1 := hid hW1
  have HW2 := hid hW2
  have HX := hid hX
  have HX1 := hid hX1
  have OW := hid (o1.trans o2)
  have E16 := hid (show _ from by have := eql_p16 pr pr' W2; rw [decide_eq_false ne] at this; exact this)
  have NE := hid ne
  clear hX hX1 hW1 hW2 o1 o2 hx hy lx ly ne
  unfold mV
  go_enter Tryd.func15, Tryd.ntmps15
  go_upto_region 1 with (first
    | (refine wp_box rfl 28 (.tmp 0) rfl (mC ⟨kind, mode, chroma, pr, sb, refs, mvds, cbp, qp, blocks, pcm⟩ ra va ba).toArray rfl HW1.out HX.out ?_; simp only [Act.put, List.setIfInBounds_toArray, List.set_cons_zero, List.set_cons_succ])
    | (refine wp_box rfl 28 (.tmp 1) rfl (mC ⟨kind, mode, chroma, pr', sb', refs', mvds', cbp', qp', blocks', pcm'⟩ rb vb bb).toArray rfl HW2.out HX1.out ?_; simp only [Act.put, List.setIfInBounds_toArray, List.set_cons_zero, List.set_cons_succ]))
  simp only [List.append_eq, List.cons_append, List.nil_append]
  go_wp2_with (first
    | (refine wp_load_cell (by kernel_rfl) 5 (.tmp 5) rfl ⟨X, 0, none⟩ (.int .u8 kind) rfl (lc_u8 (BA0.out.cell (i := 0) rfl)) ?_; simp only [Act.put, List.setIfInBounds_toArray, List.set_cons_zero, List.set_cons_succ])
    | (refine wp_load_cell (by kernel_rfl) 5 (.tmp 7) rfl ⟨X + 1, 0, none⟩ (.int .u8 kind) rfl (lc_u8 (BB0.out.cell (i := 0) rfl)) ?_; simp only [Act.put, List.setIfInBounds_toArray, List.set_cons_zero, List.set_cons_succ])
    | (refine wp_load_cell (by kernel_rfl) 5 (.tmp 11) rfl ⟨X, 1, none⟩ (.int .u8 mode) rfl (lc_u8 (BA0.out.cell (i := 1) rfl)) ?_; simp only [Act.put, List.setIfInBounds_toArray, List.set_cons_zero, List.set_cons_succ])
    | (refine wp_load_cell (by kernel_rfl) 5 (.tmp 13) rfl ⟨X + 1, 1, none⟩ (.int .u8 mode) rfl (lc_u8 (BB0.out.cell (i := 1) rfl)) ?_; simp only [Act.put, List.setIfInBounds_toArray, List.set_cons_zero, List.set_cons_succ])
    | (refine wp_load_cell (by kernel_rfl) 5 (.tmp 18) rfl ⟨X, 2, none⟩ (.int .u8 chroma) rfl (lc_u8 (BA0.out.cell (i := 2) rfl)) ?_; simp only [Act.put, List.setIfInBounds_toArray, List.set_cons_zero, List.set_cons_succ])
    | (refine wp_load_cell (by kernel_rfl) 5 (.tmp 20) rfl ⟨X + 1, 2, none⟩ (.int .u8 chroma) rfl (lc_u8 (BB0.out.cell (i := 2) rfl)) ?_; simp only [Act.put, List.setIfInBounds_toArray, List.set_cons_zero, List.set_cons_succ])
    | (refine wp_load_cell (by kernel_rfl) 22 (.tmp 25) rfl ⟨X, 3, none⟩ (.agg (prC pr).toArray) rfl BA0.out.pr ?_; simp only [Act.put, List.setIfInBounds_toArray, List.set_cons_zero, List.set_cons_succ])
    | (refine wp_load_cell (by kernel_rfl) 22 (.tmp 27) rfl ⟨X + 1, 3, none⟩ (.agg (prC pr').toArray) rfl BB0.out.pr ?_; simp only [Act.put, List.setIfInBounds_toArray, List.set_cons_zero, List.set_cons_succ]; refine HoldOn.out ?_))
  constructor
  refine wp_bin_eq (by kernel_rfl) .eql 22 (.tmp 26) (.tmp 28) _ rfl _ _ (.bool false) rfl rfl (eqg_p16 _ _ _ _ _) (E16.out) ?_
  refine wpList_skip_to 4 (.bool false) (by kernel_rfl) (fun a' ha hd => ?_)
  go_wp2_with fail
  refine bodyPost_ret (results_tmp rfl a'.tmps _ _) hd ?_
  exact ⟨by rw [ha], OW.out⟩
set_option maxRecDepth 100000 in
set_option maxHeartbeats 8000000 in
theorem peq_no_sb (x y : MV) (ra va ba rb vb bb : Value) (w : World) (hx : MAt w x ra va ba) (hy : MAt w y rb vb bb) (lx : MLen x) (ly : MLen y) (e0 : x.kind = y.kind) (e1 : x.mode = y.mode) (e2 : x.chroma = y.chroma) (e3 : x.pr = y.pr) (ne : ¬ x.sb = y.sb) :
    Calls Tryd.prog 15 #[mV x ra va ba, mV y rb vb bb] w fun e w' => e = .returned (.bool false) ∧ Only [] w w' := by
  obtain ⟨kind, mode, chroma, pr, sb, refs, mvds, cbp, qp, blocks, pcm⟩ := x
  obtain ⟨kind', mode', chroma', pr', sb', refs', mvds', cbp', qp', blocks', pcm'⟩ := y
  dsimp only at *
  subst e0 e1 e2 e3
  obtain ⟨W1, hW1⟩ : ∃ W, W = w.alloc (.cells (mC ⟨kind, mode, chroma, pr, sb, refs, mvds, cbp, qp, blocks, pcm⟩ ra va ba).toArray 28) := ⟨_, rfl⟩
  obtain ⟨W2, hW2⟩ : ∃ W, W = W1.alloc (.cells (mC ⟨kind, mode, chroma, pr, sb', refs', mvds', cbp', qp', blocks', pcm'⟩ rb vb bb).toArray 28) := ⟨_, rfl⟩
  obtain ⟨X, hX⟩ : ∃ X, X = w.heap.size := ⟨_, rfl⟩
  have hX1 : X + 1 = W1.heap.size := by rw [hW1, hX]; exact (World.size_alloc _ _).symm
  have o1 : Only [] w W1 := hW1 ▸ ((Only.refl [] w).alloc _)
  have o2 : Only [] W1 W2 := hW2 ▸ ((Only.refl [] W1).alloc _)
  have BA : Blk W2 X 28 (mC ⟨kind, mode, chroma, pr, sb, refs, mvds, cbp, qp, blocks, pcm⟩ ra va ba).toArray := by
    have := Blk.new w 28 (mC ⟨kind, mode, chroma, pr, sb, refs, mvds, cbp, qp, blocks, pcm⟩ ra va ba).toArray
    rw [← hW1, ← hX] at this
    exact this.only o2 (by simp)
  have BB : Blk W2 (X + 1) 28 (mC ⟨kind, mode, chroma, pr, sb', refs', mvds', cbp', qp', blocks', pcm'⟩ rb vb bb).toArray := by
    have := Blk.new W1 28 (mC ⟨kind, mode, chroma, pr, sb', refs', mvds', cbp', qp', blocks', pcm'⟩ rb vb bb).toArray
    rwa [← hW2, ← hX1] at this
  have BA0 := hid BA
  have BB0 := hid BB
  clear BA BB
  have HW1 := hid hW1
  have HW2 := hid hW2
  have HX := hid hX
  have HX1 := hid hX1
  have OW := hid (o1.trans o2)
  have E16 := hid (show _ from by have := eql_p16 pr pr W2; rw [decide_eq_true rfl] at this; exact this)
  have E4 := hid (show _ from by have := eql_s4 sb sb' W2; rw [decide_eq_false ne] at this; exact this)
  have NE := hid ne
  clear hX hX1 hW1 hW2 o1 o2 hx hy lx ly ne
  unfold mV
  go_enter Tryd.func15, Tryd.ntmps15
  go_upto_region 1 with (first
    | (refine wp_box rfl 28 (.tmp 0) rfl (mC ⟨kind, mode, chroma, pr, sb, refs, mvds, cbp, qp, blocks, pcm⟩ ra va ba).toArray rfl HW1.out HX.out ?_; simp only [Act.put, List.setIfInBounds_toArray, List.set_cons_zero, List.set_cons_succ])
    | (refine wp_box rfl 28 (.tmp 1) rfl (mC ⟨kind, mode, chroma, pr, sb', refs', mvds', cbp', qp', blocks', pcm'⟩ rb vb bb).toArray rfl HW2.out HX1.out ?_; simp only [Act.put, List.setIfInBounds_toArray, List.set_cons_zero, List.set_cons_succ]))
  simp only [List.append_eq, List.cons_append, List.nil_append]
  go_wp2_with (first
    | (refine wp_bin_eq (by kernel_rfl) .eql 22 (.tmp 26) (.tmp 28) _ rfl _ _ _ rfl rfl (eqg_p16 _ _ _ _ _) E16.out ?_; simp only [Act.put, List.setIfInBounds_toArray, List.set_cons_zero, List.set_cons_succ])
    | (refine wp_load_cell (by kernel_rfl) 5 (.tmp 5) rfl ⟨X, 0, none⟩ (.int .u8 kind) rfl (lc_u8 (BA0.out.cell (i := 0) rfl)) ?_; simp only [Act.put, List.setIfInBounds_toArray, List.set_cons_zero, List.set_cons_succ])
    | (refine wp_load_cell (by kernel_rfl) 5 (.tmp 7) rfl ⟨X + 1, 0, none⟩ (.int .u8 kind) rfl (lc_u8 (BB0.out.cell (i := 0) rfl)) ?_; simp only [Act.put, List.setIfInBounds_toArray, List.set_cons_zero, List.set_cons_succ])
    | (refine wp_load_cell (by kernel_rfl) 5 (.tmp 11) rfl ⟨X, 1, none⟩ (.int .u8 mode) rfl (lc_u8 (BA0.out.cell (i := 1) rfl)) ?_; simp only [Act.put, List.setIfInBounds_toArray, List.set_cons_zero, List.set_cons_succ])
    | (refine wp_load_cell (by kernel_rfl) 5 (.tmp 13) rfl ⟨X + 1, 1, none⟩ (.int .u8 mode) rfl (lc_u8 (BB0.out.cell (i := 1) rfl)) ?_; simp only [Act.put, List.setIfInBounds_toArray, List.set_cons_zero, List.set_cons_succ])
    | (refine wp_load_cell (by kernel_rfl) 5 (.tmp 18) rfl ⟨X, 2, none⟩ (.int .u8 chroma) rfl (lc_u8 (BA0.out.cell (i := 2) rfl)) ?_; simp only [Act.put, List.setIfInBounds_toArray, List.set_cons_zero, List.set_cons_succ])
    | (refine wp_load_cell (by kernel_rfl) 5 (.tmp 20) rfl ⟨X + 1, 2, none⟩ (.int .u8 chroma) rfl (lc_u8 (BB0.out.cell (i := 2) rfl)) ?_; simp only [Act.put, List.setIfInBounds_toArray, List.set_cons_zero, List.set_cons_succ])
    | (refine wp_load_cell (by kernel_rfl) 22 (.tmp 25) rfl ⟨X, 3, none⟩ (.agg (prC pr).toArray) rfl BA0.out.pr ?_; simp only [Act.put, List.setIfInBounds_toArray, List.set_cons_zero, List.set_cons_succ])
    | (refine wp_load_cell (by kernel_rfl) 22 (.tmp 27) rfl ⟨X + 1, 3, none⟩ (.agg (prC pr).toArray) rfl BB0.out.pr ?_; simp only [Act.put, List.setIfInBounds_toArray, List.set_cons_zero, List.set_cons_succ])
    | (refine wp_load_cell (by kernel_rfl) 23 (.tmp 32) rfl ⟨X, 19, none⟩ (.agg (sbC sb).toArray) rfl BA0.out.sb ?_; simp only [Act.put, List.setIfInBounds_toArray, List.set_cons_zero, List.set_cons_succ])
    | (refine wp_load_cell (by kernel_rfl) 23 (.tmp 34) rfl ⟨X + 1, 19, none⟩ (.agg (sbC sb').toArray) rfl BB0.out.sb ?_; simp only [Act.put, List.setIfInBounds_toArray, List.set_cons_zero, List.set_cons_succ]; refine HoldOn.out ?_))
  constructor
  refine wp_bin_eq (by kernel_rfl) .eql 23 (.tmp 33) (.tmp 35) _ rfl _ _ (.bool false) rfl rfl (eqg_s4 _ _ _ _ _) (E4.out) ?_
  refine wpList_skip_to 4 (.bool false) (by kernel_rfl) (fun a' ha hd => ?_)
  go_wp2_with fail
  refine bodyPost_ret (results_tmp rfl a'.tmps _ _) hd ?_
  exact ⟨by rw [ha], OW.out⟩
set_option maxRecDepth 100000 in
set_option maxHeartbeats 8000000 in
theorem peq_no_cbp (x y : MV) (ra va ba rb vb bb : Value) (w : World) (hx : MAt w x ra va ba) (hy : MAt w y rb vb bb) (lx : MLen x) (ly : MLen y) (e0 : x.kind = y.kind) (e1 : x.mode = y.mode) (e2 : x.chroma = y.chroma) (e3 : x.pr = y.pr) (e4 : x.sb = y.sb) (ne : ¬ x.cbp = y.cbp) :
    Calls Tryd.prog 15 #[mV x ra va ba, mV y rb vb bb] w fun e w' => e = .returned (.bool false) ∧ Only [] w w' := by
  obtain ⟨kind, mode, chroma, pr, sb, refs, mvds, cbp, qp, blocks, pcm⟩ := x
  obtain ⟨kind', mode', chroma', pr', sb', refs', mvds', cbp', qp', blocks', pcm'⟩ := y
  dsimp only at *
  subst e0 e1 e2 e3 e4
  obtain ⟨W1, hW1⟩ : ∃ W, W = w.alloc (.cells (mC ⟨kind, mode, chroma, pr, sb, refs, mvds, cbp, qp, blocks, pcm⟩ ra va ba).toArray 28) := ⟨_, rfl⟩
  obtain ⟨W2, hW2⟩ : ∃ W, W = W1.alloc (.cells (mC ⟨kind, mode, chroma, pr, sb, refs', mvds', cbp', qp', blocks', pcm'⟩ rb vb bb).toArray 28) := ⟨_, rfl⟩
  obtain ⟨X, hX⟩ : ∃ X, X = w.heap.size := ⟨_, rfl⟩
  have hX1 : X + 1 = W1.heap.size := by rw [hW1, hX]; exact (World.size_alloc _ _).symm
  have o1 : Only [] w W1 := hW1 ▸ ((Only.refl [] w).alloc _)
  have o2 : Only [] W1 W2 := hW2 ▸ ((Only.refl [] W1).alloc _)
  have BA : Blk W2 X 28 (mC ⟨kind, mode, chroma, pr, sb, refs, mvds, cbp, qp, blocks, pcm⟩ ra va ba).toArray := by
    have := Blk.new w 28 (mC ⟨kind, mode, chroma, pr, sb, refs, mvds, cbp, qp, blocks, pcm⟩ ra va ba).toArray
    rw [← hW1, ← hX] at this
    exact this.only o2 (by simp)
  have BB : Blk W2 (X + 1) 28 (mC ⟨kind, mode, chroma, pr, sb, refs', mvds', cbp', qp', blocks', pcm'⟩ rb vb bb).toArray := by
    have := Blk.new W1 28 (mC ⟨kind, mode, chroma, pr, sb, refs', mvds', cbp', qp', blocks', pcm'⟩ rb vb bb).toArray
    rwa [← hW2, ← hX1] at this
  have BA0 := hid BA
  have BB0 := hid BB
  clear BA BB
  have HW1 := hid hW1
  have HW2 := hid hW2
  have HX := hid hX
  have HX1 := hid hX1
  have OW := hid (o1.trans o2)
  have E16 := hid (show _ from by have := eql_p16 pr pr W2; rw [decide_eq_true rfl] at this; exact this)
  have E4 := hid (show _ from by have := eql_s4 sb sb W2; rw [decide_eq_true rfl] at this; exact this)
  have NE := hid ne
  clear hX hX1 hW1 hW2 o1 o2 hx hy lx ly ne
  unfold mV
  go_enter Tryd.func15, Tryd.ntmps15
  go_upto_region 1 with (first
    | (refine wp_box rfl 28 (.tmp 0) rfl (mC ⟨kind, mode, chroma, pr, sb, refs, mvds, cbp, qp, blocks, pcm⟩ ra va ba).toArray rfl HW1.out HX.out ?_; simp only [Act.put, List.setIfInBounds_toArray, List.set_cons_zero, List.set_cons_succ])
    | (refine wp_box rfl 28 (.tmp 1) rfl (mC ⟨kind, mode, chroma, pr, sb, refs', mvds', cbp', qp', blocks', pcm'⟩ rb vb bb).toArray rfl HW2.out HX1.out ?_; simp only [Act.put, List.setIfInBounds_toArray, List.set_cons_zero, List.set_cons_succ]))
  simp only [List.append_eq, List.cons_append, List.nil_append]
  go_wp2_with (first
    | (refine wp_bin_eq (by kernel_rfl) .eql 22 (.tmp 26) (.tmp 28) _ rfl _ _ _ rfl rfl (eqg_p16 _ _ _ _ _) E16.out ?_; simp only [Act.put, List.setIfInBounds_toArray, List.set_cons_zero, List.set_cons_succ])
    | (refine wp_bin_eq (by kernel_rfl) .eql 23 (.tmp 33) (.tmp 35) _ rfl _ _ _ rfl rfl (eqg_s4 _ _ _ _ _) E4.out ?_; simp only [Act.put, List.setIfInBounds_toArray, List.set_cons_zero, List.set_cons_succ])
    | (refine wp_load_cell (by kernel_rfl) 5 (.tmp 5) rfl ⟨X, 0, none⟩ (.int .u8 kind) rfl (lc_u8 (BA0.out.cell (i := 0) rfl)) ?_; simp only [Act.put, List.setIfInBounds_toArray, List.set_cons_zero, List.set_cons_succ])
    | (refine wp_load_cell (by kernel_rfl) 5 (.tmp 7) rfl ⟨X + 1, 0, none⟩ (.int .u8 kind) rfl (lc_u8 (BB0.out.cell (i := 0) rfl)) ?_; simp only [Act.put, List.setIfInBounds_toArray, List.set_cons_zero, List.set_cons_succ])
    | (refine wp_load_cell (by kernel_rfl) 5 (.tmp 11) rfl ⟨X, 1, none⟩ (.int .u8 mode) rfl (lc_u8 (BA0.out.cell (i := 1) rfl)) ?_; simp only [Act.put, List.setIfInBounds_toArray, List.set_cons_zero, List.set_cons_succ])
    | (refine wp_load_cell (by kernel_rfl) 5 (.tmp 13) rfl ⟨X + 1, 1, none⟩ (.int .u8 mode) rfl (lc_u8 (BB0.out.cell (i := 1) rfl)) ?_; simp only [Act.put, List.setIfInBounds_toArray, List.set_cons_zero, List.set_cons_succ])
    | (refine wp_load_cell (by kernel_rfl) 5 (.tmp 18) rfl ⟨X, 2, none⟩ (.int .u8 chroma) rfl (lc_u8 (BA0.out.cell (i := 2) rfl)) ?_; simp only [Act.put, List.setIfInBounds_toArray, List.set_cons_zero, List.set_cons_succ])
    | (refine wp_load_cell (by kernel_rfl) 5 (.tmp 20) rfl ⟨X + 1, 2, none⟩ (.int .u8 chroma) rfl (lc_u8 (BB0.out.cell (i := 2) rfl)) ?_; simp only [Act.put, List.setIfInBounds_toArray, List.set_cons_zero, List.set_cons_succ])
    | (refine wp_load_cell (by kernel_rfl) 22 (.tmp 25) rfl ⟨X, 3, none⟩ (.agg (prC pr).toArray) rfl BA0.out.pr ?_; simp only [Act.put, List.setIfInBounds_toArray, List.set_cons_zero, List.set_cons_succ])
    | (refine wp_load_cell (by kernel_rfl) 22 (.tmp 27) rfl ⟨X + 1, 3, none⟩ (.agg (prC pr).toArray) rfl BB0.out.pr ?_; simp only [Act.put, List.setIfInBounds_toArray, List.set_cons_zero, List.set_cons_succ])
    | (refine wp_load_cell (by kernel_rfl) 23 (.tmp 32) rfl ⟨X, 19, none⟩ (.agg (sbC sb).toArray) rfl BA0.out.sb ?_; simp only [Act.put, List.setIfInBounds_toArray, List.set_cons_zero, List.set_cons_succ])
    | (refine wp_load_cell (by kernel_rfl) 23 (.tmp 34) rfl ⟨X + 1, 19, none⟩ (.agg (sbC sb).toArray) rfl BB0.out.sb ?_; simp only [Act.put, List.setIfInBounds_toArray, List.set_cons_zero, List.set_cons_succ])
    | (refine wp_load_cell (by kernel_rfl) 5 (.tmp 39) rfl ⟨X, 25, none⟩ (.int .u8 cbp) rfl (lc_u8 (BA0.out.cell (i := 25) rfl)) ?_; simp only [Act.put, List.setIfInBounds_toArray, List.set_cons_zero, List.set_cons_succ])
    | (refine wp_load_cell (by kernel_rfl) 5 (.tmp 41) rfl ⟨X + 1, 25, none⟩ (.int .u8 cbp') rfl (lc_u8 (BB0.out.cell (i := 25) rfl)) ?_; simp only [Act.put, List.setIfInBounds_toArray, List.set_cons_zero, List.set_cons_succ]; refine HoldOn.out ?_))
  constructor
  refine wp_bin_eq (by kernel_rfl) .eql 5 (.tmp 40) (.tmp 42) _ rfl _ _ (.bool false) rfl rfl (g_u8 _ _ _ _ _) (ne_u8 _ NE.out) ?_
  refine wpList_skip_to 4 (.bool false) (by kernel_rfl) (fun a' ha hd => ?_)
  go_wp2_with fail
  refine bodyPost_ret (results_tmp rfl a'.tmps _ _) hd ?_
  exact ⟨by rw [ha], OW.out⟩
set_option maxRecDepth 100000 in
set_option maxHeartbeats 8000000 in
theorem peq_no_qp (x y : MV) (ra va ba rb vb bb : Value) (w : World) (hx : MAt w x ra va ba) (hy : MAt w y rb vb bb) (lx : MLen x) (ly : MLen y) (e0 : x.kind = y.kind) (e1 : x.mode = y.mode) (e2 : x.chroma = y.chroma) (e3 : x.pr = y.pr) (e4 : x.sb = y.sb) (e5 : x.cbp = y.cbp) (ne : ¬ x.qp = y.qp) :
    Calls Tryd.prog 15 #[mV x ra va ba, mV y rb vb bb] w fun e w' => e = .returned (.bool false) ∧ Only [] w w' := by
  obtain ⟨kind, mode, chroma, pr, sb, refs, mvds, cbp, qp, blocks, pcm⟩ := x
  obtain ⟨kind', mode', chroma', pr', sb', refs', mvds', cbp', qp', blocks', pcm'⟩ := y
  dsimp only at *
  subst e0 e1 e2 e3 e4 e5
  obtain ⟨W1, hW1⟩ : ∃ W, W = w.alloc (.cells (mC ⟨kind, mode, chroma, pr, sb, refs, mvds, cbp, qp, blocks, pcm⟩ ra va ba).toArray 28) := ⟨_, rfl⟩
  obtain ⟨W2, hW2⟩ : ∃ W, W = W1.alloc (.cells (mC ⟨kind, mode, chroma, pr, sb, refs', mvds', cbp, qp', blocks', pcm'⟩ rb vb bb).toArray 28) := ⟨_, rfl⟩
  obtain ⟨X, hX⟩ : ∃ X, X = w.heap.size := ⟨_, rfl⟩
  have hX1 : X + 1 = W1.heap.size := by rw [hW1, hX]; exact (World.size_alloc _ _).symm
  have o1 : Only [] w W1 := hW1 ▸ ((Only.refl [] w).alloc _)
  have o2 : Only [] W1 W2 := hW2 ▸ ((Only.refl [] W1).alloc _)
  have BA : Blk W2 X 28 (mC ⟨kind, mode, chroma, pr, sb, refs, mvds, cbp, qp, blocks, pcm⟩ ra va ba).toArray := by
    have := Blk.new w 28 (mC ⟨kind, mode, chroma, pr, sb, refs, mvds, cbp, qp, blocks, pcm⟩ ra va ba).toArray
    rw [← hW1, ← hX] at this
    exact this.only o2 (by simp)
  have BB : Blk W2 (X + 1) 28 (mC ⟨kind, mode, chroma, pr, sb, refs', mvds', cbp, qp', blocks', pcm'⟩ rb vb bb).toArray := by
    have := Blk.new W1 28 (mC ⟨kind, mode, chroma, pr, sb, refs', mvds', cbp, qp', blocks', pcm'⟩ rb vb bb).toArray
    rwa [← hW2, ← hX1] at this
  have BA0 := hid BA
  have BB0 := hid BB
  clear BA BB
  have HW1 := hid hW1
  have HW2 := hid hW2
  have HX := hid hX
  have HX1 := hid hX1
  have OW := hid (o1.trans o2)
  have E16 := hid (show _ from by have := eql_p16 pr pr W2; rw [decide_eq_true rfl] at this; exact this)
  have E4 := hid (show _ from by have := eql_s4 sb sb W2; rw [decide_eq_true rfl] at this; exact this)
  have NE := hid ne
  clear hX hX1 hW1 hW2 o1 o2 hx hy lx ly ne
  unfold mV
  go_enter Tryd.func15, Tryd.ntmps15
  go_upto_region 1 with (first
    | (refine wp_box rfl 28 (.tmp 0) rfl (mC ⟨kind, mode, chroma, pr, sb, refs, mvds, cbp, qp, blocks, pcm⟩ ra va ba).toArray rfl HW1.out HX.out ?_; simp only [Act.put, List.setIfInBounds_toArray, List.set_cons_zero, List.set_cons_succ])
    | (refine wp_box rfl 28 (.tmp 1) rfl (mC ⟨kind, mode, chroma, pr, sb, refs', mvds', cbp, qp', blocks', pcm'⟩ rb vb bb).toArray rfl HW2.out HX1.out ?_; simp only [Act.put, List.setIfInBounds_toArray, List.set_cons_zero, List.set_cons_succ]))
  simp only [List.append_eq, List.cons_append, List.nil_append]
  go_wp2_with (first
    | (refine wp_bin_eq (by kernel_rfl) .eql 22 (.tmp 26) (.tmp 28) _ rfl _ _ _ rfl rfl (eqg_p16 _ _ _ _ _) E16.out ?_; simp only [Act.put, List.setIfInBounds_toArray, List.set_cons_zero, List.set_cons_succ])
    | (refine wp_bin_eq (by kernel_rfl) .eql 23 (.tmp 33) (.tmp 35) _ rfl _ _ _ rfl rfl (eqg_s4 _ _ _ _ _) E4.out ?_; simp only [Act.put, List.setIfInBounds_toArray, List.set_cons_zero, List.set_cons_succ])
    | (refine wp_load_cell (by kernel_rfl) 5 (.tmp 5) rfl ⟨X, 0, none⟩ (.int .u8 kind) rfl (lc_u8 (BA0.out.cell (i := 0) rfl)) ?_; simp only [Act.put, List.setIfInBounds_toArray, List.set_cons_zero, List.set_cons_succ])
    | (refine wp_load_cell (by kernel_rfl) 5 (.tmp 7) rfl ⟨X + 1, 0, none⟩ (.int .u8 kind) rfl (lc_u8 (BB0.out.cell (i := 0) rfl)) ?_; simp only [Act.put, List.setIfInBounds_toArray, List.set_cons_zero, List.set_cons_succ])
    | (refine wp_load_cell (by kernel_rfl) 5 (.tmp 11) rfl ⟨X, 1, none⟩ (.int .u8 mode) rfl (lc_u8 (BA0.out.cell (i := 1) rfl)) ?_; simp only [Act.put, List.setIfInBounds_toArray, List.set_cons_zero, List.set_cons_succ])
    | (refine wp_load_cell (by kernel_rfl) 5 (.tmp 13) rfl ⟨X + 1, 1, none⟩ (.int .u8 mode) rfl (lc_u8 (BB0.out.cell (i := 1) rfl)) ?_; simp only [Act.put, List.setIfInBounds_toArray, List.set_cons_zero, List.set_cons_succ])
    | (refine wp_load_cell (by kernel_rfl) 5 (.tmp 18) rfl ⟨X, 2, none⟩ (.int .u8 chroma) rfl (lc_u8 (BA0.out.cell (i := 2) rfl)) ?_; simp only [Act.put, List.setIfInBounds_toArray, List.set_cons_zero, List.set_cons_succ])
    | (refine wp_load_cell (by kernel_rfl) 5 (.tmp 20) rfl ⟨X + 1, 2, none⟩ (.int .u8 chroma) rfl (lc_u8 (BB0.out.cell (i := 2) rfl)) ?_; simp only [Act.put, List.setIfInBounds_toArray, List.set_cons_zero, List.set_cons_succ])
    | (refine wp_load_cell (by kernel_rfl) 22 (.tmp 25) rfl ⟨X, 3, none⟩ (.agg (prC pr).toArray) rfl BA0.out.pr ?_; simp only [Act.put, List.setIfInBounds_toArray, List.set_cons_zero, List.set_cons_succ])
    | (refine wp_load_cell (by kernel_rfl) 22 (.tmp 27) rfl ⟨X + 1, 3, none⟩ (.agg (prC pr).toArray) rfl BB0.out.pr ?_; simp only [Act.put, List.setIfInBounds_toArray, List.set_cons_zero, List.set_cons_succ])
    | (refine wp_load_cell (by kernel_rfl) 23 (.tmp 32) rfl ⟨X, 19, none⟩ (.agg (sbC sb).toArray) rfl BA0.out.sb ?_; simp only [Act.put, List.setIfInBounds_toArray, List.set_cons_zero, List.set_cons_succ])
    | (refine wp_load_cell (by kernel_rfl) 23 (.tmp 34) rfl ⟨X + 1, 19, none⟩ (.agg (sbC sb).toArray) rfl BB0.out.sb ?_; simp only [Act.put, List.setIfInBounds_toArray, List.set_cons_zero, List.set_cons_succ])
    | (refine wp_load_cell (by kernel_rfl) 5 (.tmp 39) rfl ⟨X, 25, none⟩ (.int .u8 cbp) rfl (lc_u8 (BA0.out.cell (i := 25) rfl)) ?_; simp only [Act.put, List.setIfInBounds_toArray, List.set_cons_zero, List.set_cons_succ])
    | (refine wp_load_cell (by kernel_rfl) 5 (.tmp 41) rfl ⟨X + 1, 25, none⟩ (.int .u8 cbp) rfl (lc_u8 (BB0.out.cell (i := 25) rfl)) ?_; simp only [Act.put, List.setIfInBounds_toArray, List.set_cons_zero, List.set_cons_succ])
    | (refine wp_load_cell (by kernel_rfl) 3 (.tmp 46) rfl ⟨X, 26, none⟩ (.int .i64 qp) rfl (lc_i64 (BA0.out.cell (i := 26) rfl)) ?_; simp only [Act.put, List.setIfInBounds_toArray, List.set_cons_zero, List.set_cons_succ])
    | (refine wp_load_cell (by kernel_rfl) 3 (.tmp 48) rfl ⟨X + 1, 26, none⟩ (.int .i64 qp') rfl (lc_i64 (BB0.out.cell (i := 26) rfl)) ?_; simp only [Act.put, List.setIfInBounds_toArray, List.set_cons_zero, List.set_cons_succ]; refine HoldOn.out ?_))
  constructor
  refine wp_bin_eq (by kernel_rfl) .eql 3 (.tmp 47) (.tmp 49) _ rfl _ _ (.bool false) rfl rfl (g_i64 _ _ _ _ _) (ne_i64 _ NE.out) ?_
  refine wpList_skip_to 4 (.bool false) (by kernel_rfl) (fun a' ha hd => ?_)
  go_wp2_with fail
  refine bodyPost_ret (results_tmp rfl a'.tmps _ _) hd ?_
  exact ⟨by rw [ha], OW.out⟩
end Go.Proofs.YtpmmnjeomdjakaaDoor

end
