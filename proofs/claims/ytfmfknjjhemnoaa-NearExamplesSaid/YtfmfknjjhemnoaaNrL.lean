/- Lists that a call collects. -/
import Derived.Test.YtfmfknjjhemnoaaMbH
import Derived.Test.YtfmfknjjhemnoaaArgI
namespace Go.Proofs.Ytfmfknjjhemnoaa
open Go.RowKit
set_option linter.unusedVariables false
set_option linter.unusedSimpArgs false

/-- A slice that a call collects from the world w0 on. -/
structure ColG {α : Type} (C : α → List Value) (n : Nat) (E : TypeId) (w0 w : World) (sv : Value) (l : List α) : Prop where
  row : RowG C n E w sv l
  new : ∀ g, g ∈ ownG sv → w0.heap.size ≤ g
  only : Only [] w0 w
section
variable {α : Type} {C : α → List Value} {n : Nat} {E : TypeId} {w0 w w' : World} {sv : Value} {l : List α}
theorem ColG.nil (w : World) : ColG C n E w w (.slice none 0 0) [] := ⟨RowG.nil w, by simp [ownG, Value.ownBlock], Only.refl _ _⟩
theorem ColG.step (h : ColG C n E w0 w sv l) (o : Only [] w w') : ColG C n E w0 w' sv l := ⟨h.row.only o (by simp), h.new, h.only.trans o⟩
theorem ColG.app1 {P : Program} {T : TypeId} {z : Value} {bytes : Nat} (K : CellsN C n) (H : RowType P T E z n bytes) (h : ColG C n E w0 w sv l) (x : α) (hl : l.length + 1 ≤ 1000000) :
    ∃ sv2 w2, (Builtin.append_ #[T, T] T #[sv, .slice (some ⟨w.heap.size, 0, none⟩) 1 1]).run P (w.alloc (.cells (C x).toArray E)) = .ok sv2 w2 ∧ ColG C n E w0 w2 sv2 (l ++ [x]) := by
  obtain ⟨sv2, w2, hrun, hrow, honly, hown⟩ := append_oneG K H sv l x h.row hl
  exact ⟨sv2, w2, hrun, hrow, fun g hg => (hown g hg).elim (h.new g) (fun q => Nat.le_trans h.only.size q), h.only.trans2 honly (fun y hy => .inr (h.new y hy))⟩
/-- Some that lie in one block. -/
theorem ColG.appL {P : Program} {T : TypeId} {z : Value} {bytes : Nat} (K : CellsN C n) (H : RowType P T E z n bytes) (h : ColG C n E w0 w sv l) (xs : List α) (hl : l.length + xs.length ≤ 1000000) :
    ∃ sv2 w2, (Builtin.append_ #[T, T] T #[sv, .slice (some ⟨w.heap.size, 0, none⟩) xs.length xs.length]).run P (w.alloc (.cells (cellsG C xs).toArray E)) = .ok sv2 w2 ∧ ColG C n E w0 w2 sv2 (l ++ xs) := by
  have oa : Only [] w (w.alloc (.cells (cellsG C xs).toArray E)) := (Only.refl [] w).alloc _
  have h2 := h.step oa
  obtain ⟨sv2, w2, hrun, hrow, honly, hown⟩ := append_rowsG (w := w.alloc (.cells (cellsG C xs).toArray E)) K H sv _ l xs h2.row (holdsG_lit K w E xs (by unfold maxLen; omega)) hl
  exact ⟨sv2, w2, hrun, hrow, fun g hg => (hown g hg).elim (h.new g) (fun q => Nat.le_trans h2.only.size q), h2.only.trans2 honly (fun y hy => .inr (h.new y hy))⟩
/-- A slice behind it. -/
theorem ColG.appS {P : Program} {T : TypeId} {z : Value} {bytes : Nat} (K : CellsN C n) (H : RowType P T E z n bytes) (h : ColG C n E w0 w sv l) (b : Value) (xs : List α) (hb : HoldsG C n w b xs) (hl : l.length + xs.length ≤ 1000000) :
    ∃ sv2 w2, (Builtin.append_ #[T, T] T #[sv, b]).run P w = .ok sv2 w2 ∧ ColG C n E w0 w2 sv2 (l ++ xs) := by
  obtain ⟨sv2, w2, hrun, hrow, honly, hown⟩ := append_rowsG K H sv b l xs h.row hb hl
  exact ⟨sv2, w2, hrun, hrow, fun g hg => (hown g hg).elim (h.new g) (fun q => Nat.le_trans h.only.size q), h.only.trans2 honly (fun y hy => .inr (h.new y hy))⟩
end
/-- A slice that a call goes on with from the world w0 on: what lies in S may be its own. -/
structure ColS {α : Type} (C : α → List Value) (n : Nat) (E : TypeId) (S : List Nat) (w0 w : World) (sv : Value) (l : List α) : Prop where
  row : RowG C n E w sv l
  new : ∀ g, g ∈ ownG sv → g ∈ S ∨ w0.heap.size ≤ g
  only : Only S w0 w
section
variable {α : Type} {C : α → List Value} {n : Nat} {E : TypeId} {S : List Nat} {w0 w1 w w' : World} {sv sv' : Value} {l l' : List α}
theorem ColS.start (h : ColG C n E w0 w sv l) : ColS C n E (ownG sv) w w sv l := ⟨h.row, fun g hg => .inl hg, Only.refl _ _⟩
theorem ColS.back (h0 : ColG C n E w0 w1 sv l) (h : ColS C n E (ownG sv) w1 w' sv' l') : ColG C n E w0 w' sv' l' :=
  ⟨h.row, fun g hg => (h.new g hg).elim (h0.new g) (fun q => Nat.le_trans h0.only.size q), h0.only.trans2 h.only (fun y hy => .inr (h0.new y hy))⟩
theorem ColS.step (h : ColS C n E S w0 w sv l) (o : Only [] w w') : ColS C n E S w0 w' sv l := ⟨h.row.only o (by simp), h.new, h.only.trans (o.mono (fun _ _ h => by cases h))⟩
theorem ColS.app1 {P : Program} {T : TypeId} {z : Value} {bytes : Nat} (K : CellsN C n) (H : RowType P T E z n bytes) (h : ColS C n E S w0 w sv l) (x : α) (hl : l.length + 1 ≤ 1000000) :
    ∃ sv2 w2, (Builtin.append_ #[T, T] T #[sv, .slice (some ⟨w.heap.size, 0, none⟩) 1 1]).run P (w.alloc (.cells (C x).toArray E)) = .ok sv2 w2 ∧ ColS C n E S w0 w2 sv2 (l ++ [x]) := by
  obtain ⟨sv2, w2, hrun, hrow, honly, hown⟩ := append_oneG K H sv l x h.row hl
  exact ⟨sv2, w2, hrun, hrow, fun g hg => (hown g hg).elim (h.new g) (fun q => .inr (Nat.le_trans h.only.size q)), h.only.trans2 honly (fun y hy => h.new y hy)⟩
end
theorem rowG_lit {α : Type} {C : α → List Value} {n : Nat} (K : CellsN C n) (w : World) (E : TypeId) (l : List α) (hl : l.length ≤ maxLen) : RowG C n E (w.alloc (.cells (cellsG C l).toArray E)) (.slice (some ⟨w.heap.size, 0, none⟩) l.length l.length) l :=
  ⟨cellsG_length K l, .inr ⟨w.heap.size, l.length, (cellsG C l).toArray, rfl, Nat.zero_le _, heap_alloc_new w _, Nat.le_refl _, hl, by simp [cellsG_length K], by rw [List.take_of_length_le (by simp [cellsG_length K])]⟩⟩
theorem colG_lit {α : Type} {C : α → List Value} {n : Nat} {w0 : World} (K : CellsN C n) (w : World) (E : TypeId) (l : List α) (hl : l.length ≤ maxLen) (o : Only [] w0 w) : ColG C n E w0 (w.alloc (.cells (cellsG C l).toArray E)) (.slice (some ⟨w.heap.size, 0, none⟩) l.length l.length) l :=
  ⟨rowG_lit K w E l hl, fun g hg => by simp [ownG, Value.ownBlock] at hg; subst hg; exact o.size, o.alloc _⟩
/-- What lies in old blocks is as it was. -/
theorem HoldsG.old {α : Type} {C : α → List Value} {n : Nat} {S : List Nat} {w w' : World} {sv : Value} {l : List α} (h : HoldsG C n w sv l) (k : Only S w w') (hS : ∀ g, g ∈ S → w.heap.size ≤ g) : HoldsG C n w' sv l := by
  obtain ⟨a, c, rfl, h1, h2, h3⟩ := h
  refine ⟨a, c, rfl, h1, h2, ?_⟩
  rcases h3 with h3 | ⟨b, o, rfl, hc⟩
  · exact .inl h3
  · exact .inr ⟨b, o, rfl, fun j x hj i v hv => k.cell (hc j x hj i v hv) (fun hs => by have h1 := World.block_lt_of_cell? _ _ (hc j x hj i v hv); have h2 := hS _ hs; exact absurd h1 (Nat.not_lt.2 h2))⟩
theorem HoldsI.old {q : IntKind} {S : List Nat} {w w' : World} {sv : Value} {l : List Int} (h : HoldsI q w sv l) (k : Only S w w') (hS : ∀ g, g ∈ S → w.heap.size ≤ g) : HoldsI q w' sv l := by
  obtain ⟨a, c, rfl, h1, h2, h3⟩ := h
  refine ⟨a, c, rfl, h1, h2, ?_⟩
  rcases h3 with h3 | ⟨b, o, rfl, hc⟩
  · exact .inl h3
  · exact .inr ⟨b, o, rfl, fun j x hj => k.cell (hc j x hj) (fun hs => by have h1 := World.block_lt_of_cell? _ _ (hc j x hj); have h2 := hS _ hs; exact absurd h1 (Nat.not_lt.2 h2))⟩
theorem HoldsB.old {S : List Nat} {w w' : World} {sv : Value} {l : List (List Int)} (h : HoldsB w sv l) (k : Only S w w') (hS : ∀ g, g ∈ S → w.heap.size ≤ g) : HoldsB w' sv l := by
  obtain ⟨vs, a, b, c⟩ := h
  exact ⟨vs, a.old k hS, b, fun j v x hv hx => (c j v x hv hx).old k hS⟩
theorem MAt.old {S : List Nat} {w w' : World} {x : MV} {rv vv bv : Value} (h : MAt w x rv vv bv) (k : Only S w w') (hS : ∀ g, g ∈ S → w.heap.size ≤ g) : MAt w' x rv vv bv := ⟨h.r.old k hS, h.v.old k hS, h.b.old k hS⟩
/-- One slice of a row of slices is replaced. -/
theorem RowG.set1 {E : TypeId} {w : World} {g n c : Nat} {vs : List SlV} (h : RowG slC 1 E w (.slice (some ⟨g, 0, none⟩) n c) vs) (i : Nat) (v : SlV) (hi : i < vs.length) : RowG slC 1 E (w.setCell ⟨g, i, none⟩ v.sl) (.slice (some ⟨g, 0, none⟩) n c) (vs.set i v) := by
  have hflat : ∀ us : List SlV, cellsG slC us = us.map SlV.sl := fun us => by
    induction us with
    | nil => rfl
    | cons u us ih => rw [cellsG, ih]; rfl
  refine ⟨by rw [cellsG_length slC_ok], ?_⟩
  rcases h.2 with ⟨e, _⟩ | ⟨g', cap, cur, e, hb, hh, h1, h2, h3, h4⟩
  · cases e
  · cases e
    obtain ⟨hlt, hk⟩ := Array.getElem?_eq_some_iff.1 hh
    refine .inr ⟨g, c, cur.setIfInBounds i v.sl, by rw [List.length_set], hb, ?_, by rw [List.length_set]; exact h1, h2, by simpa using h3, ?_⟩
    · show (w.heap.modify g _)[g]? = _
      rw [Array.getElem?_eq_getElem (by rw [Array.size_modify]; exact hlt), Array.getElem_modify_self, hk]
      rfl
    · rw [hflat] at h4 ⊢
      rw [List.length_set, Array.toList_setIfInBounds, List.map_set, ← h4, List.take_set]
end Go.Proofs.Ytfmfknjjhemnoaa
