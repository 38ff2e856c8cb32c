/- Rows of macroblocks that are made, copied and written; elements whose lists are somebody's own. -/
import Derived.Test.YtfmfknjjhemnoaaNrM
import Derived.Laws.CopyRow
import Derived.Laws.MakeOwn
namespace Go.Proofs.Ytfmfknjjhemnoaa
open Go.RowKit
set_option linter.unusedVariables false
set_option linter.unusedSimpArgs false

/-- The lists of a macroblock are rows, which lie in F. -/
structure Own (F : Nat → Prop) (w : World) (e : El) : Prop where
  r : RowI w e.2.1.sl e.1.refs
  rn : ∀ g, g ∈ ownI e.2.1.sl → F g
  v : RowG vcC 2 71 w e.2.2.1.sl e.1.mvds
  vn : ∀ g, g ∈ ownG e.2.2.1.sl → F g
  b : ∃ vs : List SlV, RowG slC 1 36 w e.2.2.2.sl vs ∧ (∀ g, g ∈ ownG e.2.2.2.sl → F g) ∧ vs.length = e.1.blocks.length ∧ ∀ (j : Nat) (v : SlV) (y : List Int), vs[j]? = some v → e.1.blocks[j]? = some y → RowI w v.sl y ∧ ∀ g, g ∈ ownI v.sl → F g
section
variable {F G : Nat → Prop} {w w' : World} {e : El} {S : List Nat}
theorem Own.step (h : Own F w e) (k : Only S w w') (hS : ∀ g, g ∈ S → ¬ F g) : Own F w' e := by
  obtain ⟨vs, h1, h2, h3, h4⟩ := h.b
  have no : ∀ g, F g → g ∉ S := fun g hg hh => hS g hh hg
  exact ⟨h.r.only k (fun g hg => no g (h.rn g hg)), h.rn, h.v.only k (fun g hg => no g (h.vn g hg)), h.vn, vs, h1.only k (fun g hg => no g (h2 g hg)), h2, h3, fun j v y hv hy => ⟨(h4 j v y hv hy).1.only k (fun g hg => no g ((h4 j v y hv hy).2 g hg)), (h4 j v y hv hy).2⟩⟩
theorem Own.mono (h : Own F w e) (hG : ∀ g, g < w.heap.size → F g → G g) : Own G w e := by
  obtain ⟨vs, h1, h2, h3, h4⟩ := h.b
  exact ⟨h.r, fun g hg => hG g (h.r.lt g hg) (h.rn g hg), h.v, fun g hg => hG g (h.v.lt g hg) (h.vn g hg), vs, h1, fun g hg => hG g (h1.lt g hg) (h2 g hg), h3, fun j v y hv hy => ⟨(h4 j v y hv hy).1, fun g hg => hG g ((h4 j v y hv hy).1.lt g hg) ((h4 j v y hv hy).2 g hg)⟩⟩
theorem Own.at (h : Own F w e) : EAt w e := by
  obtain ⟨vs, h1, h2, h3, h4⟩ := h.b
  exact ⟨h.r.holds, h.v.holds vcC_ok, vs, h1.holds slC_ok, h3, fun j v y hv hy => (h4 j v y hv hy).1.holds⟩
theorem Own.keep (h : Own F w e) : MKeep F w e := fun S w' o hS => (h.step o hS).at
theorem OwnM.own {w0 : World} {x : MV} {s1 s2 s3 : SlV} (h : OwnM w0 w x s1.sl s2.sl s3.sl) : Own (fun g => w0.heap.size ≤ g) w (x, s1, s2, s3) := by
  obtain ⟨vs, h1, h2, h3⟩ := h.b
  exact ⟨h.r, h.rn, h.v, h.vn, vs, h1.row, h1.new, h2, fun j v y hv hy => ⟨(h3 j v y hv hy).1, fun g hg => ((h3 j v y hv hy).2 g hg).1⟩⟩
end
theorem cellsG_set {α : Type} {C : α → List Value} {n : Nat} (K : CellsN C n) : ∀ (L : List α) (k : Nat) (e : α), k < L.length → cellsG C (L.set k e) = (cellsG C L).take (k * n) ++ C e ++ (cellsG C L).drop (k * n + n)
  | [], k, e, h => by simp at h
  | a :: L, 0, e, h => by
    rw [List.set_cons_zero, cellsG, cellsG, Nat.zero_mul, List.take_zero, List.nil_append, Nat.zero_add]
    congr 1
    rw [List.drop_append_of_le_length (by rw [K.len]; omega), List.drop_of_length_le (by rw [K.len]; omega), List.nil_append]
  | a :: L, k + 1, e, h => by
    have ih := cellsG_set K L k e (by simpa using h)
    have e1 : (k + 1) * n = (C a).length + k * n := by rw [K.len, Nat.add_mul]; omega
    rw [List.set_cons_succ, cellsG, cellsG, ih, e1, List.take_append, List.take_of_length_le (l := C a) (by omega), show (C a).length + k * n + n = (C a).length + (k * n + n) by omega, List.drop_append, List.drop_of_length_le (l := C a) (by omega)]
    simp [Nat.add_sub_cancel_left, List.append_assoc]
theorem setsA_mid : ∀ (cs : List Value) (o : Nat) (a : Array Value), o + cs.length ≤ a.size → (setsA a o cs).toList = a.toList.take o ++ cs ++ a.toList.drop (o + cs.length) := by
  intro cs
  induction cs with
  | nil =>
    intro o a h
    rw [setsA, List.append_nil, List.length_nil, Nat.add_zero, List.take_append_drop]
  | cons v r ih =>
    intro o a h
    simp only [List.length_cons] at h
    rw [setsA, ih (o + 1) _ (by simp; omega), Array.toList_setIfInBounds, List.take_succ_eq_append_getElem (by simp; omega)]
    simp only [List.getElem_set_self, List.length_cons]
    rw [List.take_set, List.set_eq_of_length_le (by rw [List.length_take]; exact Nat.min_le_left _ _), List.drop_set_of_lt (by omega), show o + 1 + r.length = o + (r.length + 1) by omega]
    simp
section
variable {α : Type} {C : α → List Value} {n : Nat} {E : TypeId} {w w' : World} {g : Nat}
/-- A block that is a row. -/
theorem rowG_blk (K : CellsN C n) {l : List α} (h : Blk w g E (cellsG C l).toArray) (hl : l.length ≤ maxLen) : RowG C n E w (.slice (some ⟨g, 0, none⟩) l.length l.length) l :=
  ⟨cellsG_length K l, .inr ⟨g, l.length, (cellsG C l).toArray, rfl, Nat.zero_le _, h, Nat.le_refl _, hl, by simp [cellsG_length K], by rw [List.take_of_length_le (by simp [cellsG_length K])]⟩⟩
theorem blk_at (K : CellsN C n) {l : List α} (h : Blk w g E (cellsG C l).toArray) {j : Nat} {x : α} (hx : l[j]? = some x) : CellsAt C w g (j * n) x := fun k v hk => h.cell (by simpa using cellsG_at K l j x hx k v hk)
theorem setsA_row (K : CellsN C n) (l : List α) (k : Nat) (x : α) (hk : k < l.length) : setsA (cellsG C l).toArray (k * n) (C x) = (cellsG C (l.set k x)).toArray := by
  have hb : k * n + n ≤ l.length * n := by
    have := Nat.mul_le_mul_right n (show k + 1 ≤ l.length from hk)
    rw [Nat.add_mul] at this
    omega
  apply Array.toList_inj.1
  rw [setsA_mid _ _ _ (by simp [cellsG_length K, K.len]; exact hb), cellsG_set K l k x hk, K.len]
/-- A row is copied over another one. -/
theorem run_copy_g {P : Program} {T T2 ty : TypeId} {sv : Value} (K : CellsN C n) (hu : P.underlying T = some (.slice E)) (hs : (P.info? E).map (·.size) = some n) (l : List α) (A : Array Value) (hB : Blk w g E A) (hA : A.size = l.length * n) (h : HoldsG C n w sv l) :
    ∃ w', (Builtin.copy_ #[T, T2] ty #[.slice (some ⟨g, 0, none⟩) l.length l.length, sv]).run P w = .ok (goInt l.length) w' ∧ Blk w' g E (cellsG C l).toArray ∧ Only [g] w w' := by
  obtain ⟨a, c, rfl, _, _, HA⟩ := h
  cases hq : P.info? E with
  | none => simp [hq] at hs
  | some i =>
    have hi : i.size = n := by simpa [hq] using hs
    by_cases h0 : l = []
    · subst h0
      have hA0 : A = #[] := by simpa using hA
      subst hA0
      refine ⟨w, ?_, hB, Only.refl _ _⟩
      cases a with
      | none => simp [Builtin.copy_, run_underlying hu, Builtin.lenOf, Builtin.firstCells, sizeOf, typeInfo, hq, storeCells]
      | some a =>
        have hl := run_loadCells_list (P := P) w a [] (by simp)
        simp at hl
        simp [Builtin.copy_, run_underlying hu, Builtin.lenOf, Builtin.firstCells, sizeOf, typeInfo, hq, hl, storeCells]
    · obtain ⟨b, o, rfl, hc⟩ : ∃ b o, a = some ⟨b, o, none⟩ ∧ ∀ (j : Nat) (x : α), l[j]? = some x → CellsAt C w b (o + j * n) x := by
        rcases HA with h | h
        · exact absurd h h0
        · exact h
      have add : ∀ k : Nat, (⟨b, o, none⟩ : Addr).add k = ⟨b, o + k, none⟩ := fun k => by cases k <;> simp [Addr.add]
      have hl := run_loadCells_list (P := P) w ⟨b, o, none⟩ (cellsG C l) (fun m v hm => by
        obtain ⟨j, k, x, hx, hk, rfl⟩ := cellsG_of K hm
        rw [add, ← Nat.add_assoc]
        exact hc j x hx k v hk)
      rw [cellsG_length K] at hl
      have hst := run_storeCells_cells (P := P) g 0 (cellsG C l) 0 w (fun j hj => by rw [cellsG_length K] at hj; simp only [Nat.zero_add]; exact Option.isSome_iff_exists.2 ⟨_, hB.cell (Array.getElem?_eq_getElem (by omega))⟩) (fun j hj => hB.frozen _) (cellsG_one K l)
      refine ⟨w.setCells g 0 (cellsG C l), ?_, ?_, only_setCells _ _ _⟩
      · simp [Builtin.copy_, run_underlying hu, Builtin.lenOf, Builtin.firstCells, sizeOf, typeInfo, hq, hi, hl, hst]
      · have := hB.sets (cellsG C l) 0 w A
        rwa [setsA_full (by rw [cellsG_length K, hA])] at this
end
/-- A copy, by what it does. -/
theorem wp_copy_eq {P : Program} {w : World} {ops : Array Oper} {rest : List Oper} {o : Oper} {a : Act} {Q : Exit → Act → World → Prop} (hg : Region.wanted o (yielded ops a.tmps) = true) (s x : Operand) (t1 t2 : TypeId)
    (hop : o.op = Op.call { callee := Callee.builtin Builtin.copy, args := #[s, x], argTypes := #[t1, t2] }) (v xv v' : Value) (w' : World) (hs : a.eval s = v) (hx : a.eval x = xv)
    (hrun : (Builtin.copy_ #[t1, t2] o.type #[v, xv]).run P w = .ok v' w') (h : wpList P ops Q rest (a.put o.dst v') w') : wpList P ops Q (o :: rest) a w := by
  refine wpList_step fun K hK => ?_
  rw [if_pos hg]
  unfold Oper.wp
  simp [execOp, hop, resolve, invoke, builtin, hs, hx, hrun, Result.andThen]
  exact hK _ _ h
/-- A make, by what it does. -/
theorem wp_make_eq {P : Program} {w : World} {ops : Array Oper} {rest : List Oper} {o : Oper} {a : Act} {Q : Exit → Act → World → Prop}
    (hg : o.guard = none) (l c : Operand) (t : TypeId) (hop : o.op = Op.makeSlice t l c) (lv cv : Value) (hl : a.eval l = lv) (hc : a.eval c = cv) (v : Value) (w' : World)
    (hrun : (Instr.makeSlice t lv cv).run P w = .ok v w') (hK : wpList P ops Q rest (a.put o.dst v) w') : wpList P ops Q (o :: rest) a w := by
  refine wpList_plain hg fun K hK' => ?_
  unfold Oper.wp
  simp [execOp, hop, hl, hc, hrun, Result.andThen]
  exact hK' _ _ hK
theorem info_mbz : (Try.prog.info? 40).map (fun i => (i.zero, i.size, i.bytes)) = some (some (mV m0 (.slice none 0 0) (.slice none 0 0) (.slice none 0 0)), 29, 128) := by kernel_rfl
theorem und_mbs : Try.prog.underlying 22 = some (.slice 40) := by kernel_rfl
/-- Room for n macroblocks. -/
theorem make_mbs (w : World) (n : Nat) (hn : n ≤ 100000) : ∃ A : Array Value, A.size = n * 29 ∧ (Instr.makeSlice 22 (.int .i64 (n : Int)) (.int .i64 (n : Int))).run Try.prog w = .ok (.slice (some ⟨w.heap.size, 0, none⟩) n n) (w.alloc (.cells A 40)) := by
  obtain ⟨i0, hi0, hz0, hs0, hb0⟩ := info_parts info_mbz
  have hr := run_make (P := Try.prog) w 22 40 i0 _ und_mbs hi0 hz0 .i64 .i64 (n : Int) (n : Int) (by omega) (Int.le_refl _) (by rw [hb0]; omega) (by omega)
  simp only [Int.toNat_natCast] at hr
  exact ⟨_, by rw [size_madeCells, hs0], hr⟩
end Go.Proofs.Ytfmfknjjhemnoaa
