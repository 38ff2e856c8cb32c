/- Blocks of cells as arrays; loads and stores of structs, slices that are built, with a guard and without: at the operation. (The same words as in header/: a text that stands on both wants one of them.) -/
import Derived.Test.YtfmfknjjhemnoaaRow
import Derived.Deep.QuietTactic
import Derived.BigQuiet
import Derived.OwnWalk
namespace Go.Proofs.Ytfmfknjjhemnoaa
open Go.RowKit
set_option linter.unusedVariables false
set_option linter.unusedSimpArgs false

/-- Block k holds the cells a. -/
def Blk (w : World) (k : Nat) (t : TypeId) (a : Array Value) : Prop := w.heap[k]? = some (.cells a t (0, 0))
section
variable {w w' : World} {k : Nat} {t : TypeId} {a : Array Value}
theorem Blk.lt (h : Blk w k t a) : k < w.heap.size := (Array.getElem?_eq_some_iff.1 h).1
theorem Blk.cell (h : Blk w k t a) {i : Nat} {v : Value} (hi : a[i]? = some v) : w.cell? ⟨k, i, none⟩ = some v := by simp [World.cell?, show w.heap[k]? = _ from h, hi]
theorem Blk.frozen (h : Blk w k t a) (i : Nat) : w.frozen? ⟨k, i, none⟩ = false := by simp [World.frozen?, show w.heap[k]? = _ from h]
theorem Blk.new (w : World) (t : TypeId) (a : Array Value) : Blk (w.alloc (.cells a t)) w.heap.size t a := heap_alloc_new w _
theorem Blk.set (h : Blk w k t a) (i : Nat) (v : Value) : Blk (w.setCell ⟨k, i, none⟩ v) k t (a.setIfInBounds i v) := by
  obtain ⟨hlt, hk⟩ := Array.getElem?_eq_some_iff.1 h
  show (w.heap.modify k _)[k]? = _
  rw [Array.getElem?_eq_getElem (by rw [Array.size_modify]; exact hlt), Array.getElem_modify_self, hk]
  rfl
theorem Blk.only {S : List Nat} (h : Blk w k t a) (o : Only S w w') (hk : k ∉ S) : Blk w' k t a := (o.block k h.lt hk).trans h
theorem Blk.drewN (h : Blk w k t a) (n : Nat) : Blk (w.drewN n) k t a := h
theorem Blk.same (h : Blk w k t a) {i : Nat} {v : Value} (hi : a[i]? = some v) : a.setIfInBounds i v = a := by
  apply Array.ext
  · simp
  · intro j h1 h2
    rw [Array.getElem_setIfInBounds]
    split
    · rename_i e
      subst e
      rw [Array.getElem?_eq_getElem (by simpa using h1)] at hi
      exact (Option.some.inj hi).symm
    · rfl
end
/-- A struct is loaded from its block. -/
theorem load_blk {P : Program} {w : World} {ops : Array Oper} {rest : List Oper} {o : Oper} {a : Act} {Q : Exit → Act → World → Prop} (hg : o.guard = none) (t : TypeId) (x : Operand) (ho : o.op = .load t x) (k : Nat) (T : TypeId) (cs : List Value)
    (hx : a.eval x = .pointer (some ⟨k, 0, none⟩)) (hB : Blk w k T cs.toArray) (hl : ∀ w, (∀ j v, cs[j]? = some v → w.cell? ⟨k, j, none⟩ = some v) → (Instr.loadAt t (.pointer (some ⟨k, 0, none⟩))).run P w = .ok (.agg cs.toArray) w)
    (h : wpList P ops Q rest (a.put o.dst (.agg cs.toArray)) w) : wpList P ops Q (o :: rest) a w := by
  refine wpList_plain hg fun K hK => ?_
  have hl' := hl w (fun j v hj => hB.cell (by simpa using hj))
  unfold Oper.wp execOp
  simp only [ho, hx]
  simp [hl', Result.andThen]
  exact hK _ _ (by simpa using h)
/-- Cells of a block, one after another. -/
def setsA (a : Array Value) : Nat → List Value → Array Value
  | _, [] => a
  | o, v :: r => setsA (a.setIfInBounds o v) (o + 1) r
theorem Blk.sets {k : Nat} {t : TypeId} : ∀ (cs : List Value) (o : Nat) (w : World) (a : Array Value), Blk w k t a → Blk (w.setCells k o cs) k t (setsA a o cs)
  | [], _, _, _, h => h
  | v :: r, o, w, a, h => Blk.sets r (o + 1) _ _ (h.set o v)
theorem only_setCells {k : Nat} : ∀ (cs : List Value) (o : Nat) (w : World), Only [k] w (w.setCells k o cs)
  | [], _, w => Only.refl _ w
  | v :: r, o, w => ((Only.refl [k] w).setCell (p := ⟨k, o, none⟩) (.inl (by simp)) v).trans (only_setCells r (o + 1) _)
theorem wpList_store_cells {P : Program} {w w' : World} {ops : Array Oper} {rest : List Oper} {o : Oper} {a : Act} {Q : Exit → Act → World → Prop} (hg : o.guard = none) (t : TypeId) (x y : Operand) (ho : o.op = .store t x y)
    (A off : Nat) (cs : Array Value) (hx : a.eval x = .pointer (some ⟨A, off, none⟩)) (hy : a.eval y = .agg cs) (hi : (P.info? t).map (·.size) = some cs.size)
    (hc : ∀ j, j < cs.toList.length → (w.cell? ⟨A, off + 0 + j, none⟩).isSome = true) (hf : ∀ j, j < cs.toList.length → w.frozen? ⟨A, off + 0 + j, none⟩ = false) (h1 : ∀ v ∈ cs.toList, v.oneCell' = true)
    (hw : w' = w.setCells A (off + 0) cs.toList) (h : wpList P ops Q rest (a.put o.dst undef) w') : wpList P ops Q (o :: rest) a w := by
  subst hw
  refine wpList_plain hg fun K hK => ?_
  have hst := run_storeCells_cells (P := P) A off cs.toList 0 w hc hf h1
  unfold Oper.wp execOp
  cases hq : P.info? t with
  | none => simp [hq] at hi
  | some i =>
    have hs : cs.size = i.size := by simp [hq] at hi; omega
    simp only [ho, hx, hy, Instr.storeAt, Instr.sureAddr, Sem.run_bind, Sem.run_pure, Result.andThen_ok]
    simp [storeVar, sizeOf, typeInfo, hq, Value.cells, hs, hst, Result.andThen]
    exact hK _ _ (by simpa using h)
theorem store_blk {P : Program} {w : World} {ops : Array Oper} {rest : List Oper} {o : Oper} {a : Act} {Q : Exit → Act → World → Prop} (hg : o.guard = none) (t : TypeId) (x y : Operand) (ho : o.op = .store t x y) (k off : Nat) (T : TypeId) (A : Array Value) (cs : List Value)
    (hx : a.eval x = .pointer (some ⟨k, off, none⟩)) (hy : a.eval y = .agg cs.toArray) (hi : (P.info? t).map (·.size) = some cs.length) (hB : Blk w k T A) (hl : off + cs.length ≤ A.size) (h1 : ∀ v ∈ cs, v.oneCell' = true)
    (h : ∀ w', Blk w' k T (setsA A off cs) → Only [k] w w' → wpList P ops Q rest (a.put o.dst undef) w') : wpList P ops Q (o :: rest) a w := by
  refine wpList_store_cells hg t x y ho k off cs.toArray hx hy (by simpa using hi) (fun j hj => ?_) (fun j hj => hB.frozen _) (by simpa using h1) rfl (h _ (hB.sets cs off w A) (only_setCells cs off w))
  have hj' : off + 0 + j < A.size := by simp at hj; omega
  exact Option.isSome_iff_exists.2 ⟨_, hB.cell (Array.getElem?_eq_getElem hj')⟩
theorem add_off (k off : Nat) (j : Nat) : (⟨k, off, none⟩ : Addr).add j = ⟨k, off + j, none⟩ := by cases j <;> simp [Addr.add]
/-- A struct is loaded from anywhere: the operation alone. -/
theorem wp_load_at {P : Program} {w : World} {o : Oper} {a : Act} {K : Act → World → Prop} {Q : Exit → Act → World → Prop} (t : TypeId) (x : Operand) (ho : o.op = .load t x) (p : Addr) (cs : List Value)
    (hx : a.eval x = .pointer (some p)) (hl : (Instr.loadAt t (.pointer (some p))).run P w = .ok (.agg cs.toArray) w)
    (h : K (a.put o.dst (.agg cs.toArray)) w) : o.wp P a w K Q := by
  unfold Oper.wp execOp
  simp only [ho, hx]
  simp [hl, Result.andThen]
  exact h
/-- A struct is loaded from anywhere. -/
theorem load_atA {P : Program} {w : World} {ops : Array Oper} {rest : List Oper} {o : Oper} {a : Act} {Q : Exit → Act → World → Prop} (hg : o.guard = none) (t : TypeId) (x : Operand) (ho : o.op = .load t x) (p : Addr) (cs : List Value)
    (hx : a.eval x = .pointer (some p)) (hl : (Instr.loadAt t (.pointer (some p))).run P w = .ok (.agg cs.toArray) w)
    (h : wpList P ops Q rest (a.put o.dst (.agg cs.toArray)) w) : wpList P ops Q (o :: rest) a w := by
  refine wpList_plain hg fun K hK => ?_
  unfold Oper.wp execOp
  simp only [ho, hx]
  simp [hl, Result.andThen]
  exact hK _ _ (by simpa using h)
/-- Strings are compared as lists. -/
theorem toListB_inj {a b : ByteArray} : a.toList = b.toList ↔ a = b :=
  ⟨fun e => by rw [ByteArray.toList_eq, ByteArray.toList_eq] at e; exact ByteArray.ext (Array.toList_inj.1 e), fun e => e ▸ rfl⟩
theorem beq_toListB {a b : ByteArray} {c : Bool} (h : c = true ↔ a = b) : (a.toList == b.toList) = c := by
  cases c
  · rw [beq_eq_false_iff_ne]; intro e; have := h.2 (toListB_inj.1 e); cases this
  · rw [beq_iff_eq]; exact toListB_inj.2 (h.1 rfl)
theorem wp_buildSlice {P : Program} {w w' : World} {ops : Array Oper} {rest : List Oper} {o : Oper} {a : Act} {Q : Exit → Act → World → Prop} (hg : o.guard = none) (t : TypeId) (n : Nat) (parts : Array (Nat × Operand)) (ho : o.op = .buildSlice t n parts)
    (vs : Array (Nat × Value)) (hx : parts.map (fun (i, x) => (i, a.eval x)) = vs) (v : Value) (hr : (Instr.buildSlice t n vs).run P w = .ok v w')
    (h : wpList P ops Q rest (a.put o.dst v) w') : wpList P ops Q (o :: rest) a w := by
  refine wpList_plain hg fun K hK => ?_
  unfold Oper.wp execOp
  simp only [ho]
  simp [hx, hr, Result.andThen]
  exact hK _ _ (by simpa using h)
/-- A struct is loaded where a guard lets it. -/
theorem load_atG {P : Program} {w : World} {ops : Array Oper} {rest : List Oper} {o : Oper} {a : Act} {Q : Exit → Act → World → Prop} (hg : Region.wanted o (yielded ops a.tmps) = true) (t : TypeId) (x : Operand) (ho : o.op = .load t x) (p : Addr) (cs : List Value)
    (hx : a.eval x = .pointer (some p)) (hl : (Instr.loadAt t (.pointer (some p))).run P w = .ok (.agg cs.toArray) w)
    (h : wpList P ops Q rest (a.put o.dst (.agg cs.toArray)) w) : wpList P ops Q (o :: rest) a w := by
  refine wpList_step fun K hK => ?_
  rw [if_pos hg]
  unfold Oper.wp execOp
  simp only [ho, hx]
  simp [hl, Result.andThen]
  exact hK _ _ (by simpa using h)
theorem wp_buildSliceG {P : Program} {w w' : World} {ops : Array Oper} {rest : List Oper} {o : Oper} {a : Act} {Q : Exit → Act → World → Prop} (hg : Region.wanted o (yielded ops a.tmps) = true) (t : TypeId) (n : Nat) (parts : Array (Nat × Operand)) (ho : o.op = .buildSlice t n parts)
    (vs : Array (Nat × Value)) (hx : parts.map (fun (i, x) => (i, a.eval x)) = vs) (v : Value) (hr : (Instr.buildSlice t n vs).run P w = .ok v w')
    (h : wpList P ops Q rest (a.put o.dst v) w') : wpList P ops Q (o :: rest) a w := by
  refine wpList_step fun K hK => ?_
  rw [if_pos hg]
  unfold Oper.wp execOp
  simp only [ho]
  simp [hx, hr, Result.andThen]
  exact hK _ _ (by simpa using h)
section
variable {α : Type} {C : α → List Value} {n : Nat}
theorem holdsG_lit (K : CellsN C n) (w : World) (T : TypeId) (l : List α) (hl : l.length ≤ maxLen) : HoldsG C n (w.alloc (.cells (cellsG C l).toArray T)) (.slice (some ⟨w.heap.size, 0, none⟩) l.length l.length) l :=
  ⟨_, _, rfl, Nat.le_refl _, hl, .inr ⟨_, 0, rfl, fun j x hx k v hv => by rw [Nat.zero_add, World.cell?_alloc_new]; simpa using cellsG_at K l j x hx k v hv⟩⟩
end
/-- An append, by what it does. -/
theorem wp_append_eq {P : Program} {w : World} {ops : Array Oper} {rest : List Oper} {o : Oper} {a : Act} {Q : Exit → Act → World → Prop} (hg : Region.wanted o (yielded ops a.tmps) = true) (s x : Operand) (t1 t2 : TypeId)
    (hop : o.op = Op.call { callee := Callee.builtin Builtin.append, args := #[s, x], argTypes := #[t1, t2] }) (v xv v' : Value) (w' : World) (hs : a.eval s = v) (hx : a.eval x = xv)
    (hrun : (Builtin.append_ #[t1, t2] o.type #[v, xv]).run P w = .ok v' w') (h : wpList P ops Q rest (a.put o.dst v') w') : wpList P ops Q (o :: rest) a w := by
  refine wpList_step fun K hK => ?_
  rw [if_pos hg]
  unfold Oper.wp
  simp [execOp, hop, resolve, invoke, builtin, hs, hx, hrun, Result.andThen]
  exact hK _ _ h
/-- The same in a region that draws. -/
theorem step_append_eqM {P : Program} {ops : Array Oper} {o : Oper} {a : Act} {w : World} {K : Act → World → Prop} {Q : Exit → Act → World → Prop} {E : Prop}
    (hg : o.guard = none) (s x : Operand) (t1 t2 : TypeId) (hop : o.op = Op.call { callee := Callee.builtin Builtin.append, args := #[s, x], argTypes := #[t1, t2] })
    (v xv : Value) (hs : a.eval s = v) (hx : a.eval x = xv) (v' : Value) (w' : World) (hrun : (Builtin.append_ #[t1, t2] o.type #[v, xv]).run P w = .ok v' w')
    (hK : K (a.put o.dst v') w') : if Region.wanted o (yielded ops a.tmps) = true then Oper.wp P o a w K Q else E := by
  have hw : Region.wanted o (yielded ops a.tmps) = true := by simp [Region.wanted, hg]
  rw [if_pos hw]
  unfold Oper.wp
  simp [execOp, hop, resolve, invoke, builtin, hs, hx, hrun, Result.andThen]
  exact hK
theorem holdsG_none {α : Type} {C : α → List Value} {n : Nat} (w : World) : HoldsG C n w (.slice none 0 0) [] := ⟨none, 0, rfl, Nat.le_refl _, Nat.zero_le _, .inl rfl⟩
def firstLoop : Code → Option Code
  | .loop c => some c
  | .seq a b => match firstLoop a with
    | some c => some c
    | none => firstLoop b
  | .block _ c => firstLoop c
  | .scope c => firstLoop c
  | .cond _ a b => match firstLoop a with
    | some c => some c
    | none => firstLoop b
  | _ => none
def blockIn : Code → Option Code
  | .seq _ (.seq (.block _ b) _) => some b
  | _ => none
/-- The first n parts, and another end. -/
def endWith : Nat → Code → Code → Code
  | n + 1, .seq x y, r => .seq x (endWith n y r)
  | _, _, r => r
/-- Without the first n parts. -/
def dropSeq : Nat → Code → Code
  | n + 1, .seq _ y => dropSeq n y
  | _, c => c
/-- A struct is loaded from the beginning of its block. -/
theorem load_part {P : Program} {w : World} {ops : Array Oper} {rest : List Oper} {o : Oper} {a : Act} {Q : Exit → Act → World → Prop} (hg : o.guard = none) (t : TypeId) (x : Operand) (ho : o.op = .load t x) (k : Nat) (T : TypeId) (cs : List Value) (A : Array Value)
    (hx : a.eval x = .pointer (some ⟨k, 0, none⟩)) (hB : Blk w k T A) (hA : ∀ (j : Nat) (v : Value), cs[j]? = some v → A[j]? = some v) (hl : ∀ w, (∀ j v, cs[j]? = some v → w.cell? ⟨k, j, none⟩ = some v) → (Instr.loadAt t (.pointer (some ⟨k, 0, none⟩))).run P w = .ok (.agg cs.toArray) w)
    (h : wpList P ops Q rest (a.put o.dst (.agg cs.toArray)) w) : wpList P ops Q (o :: rest) a w := by
  refine wpList_plain hg fun K hK => ?_
  have hl' := hl w (fun j v hj => hB.cell (hA j v hj))
  unfold Oper.wp execOp
  simp only [ho, hx]
  simp [hl', Result.andThen]
  exact hK _ _ (by simpa using h)
theorem setsA_list : ∀ (cs : List Value) (o : Nat) (a : Array Value), o + cs.length = a.size → (setsA a o cs).toList = a.toList.take o ++ cs := by
  intro cs
  induction cs with
  | nil =>
    intro o a h
    rw [setsA, List.append_nil, List.take_of_length_le (by simp at h ⊢; omega)]
  | cons v r ih =>
    intro o a h
    simp only [List.length_cons] at h
    rw [setsA, ih (o + 1) _ (by simp; omega), Array.toList_setIfInBounds, List.take_succ_eq_append_getElem (by simp; omega)]
    simp [List.take_set]
    exact List.set_eq_of_length_le (by rw [List.length_take]; exact Nat.min_le_left _ _)
theorem setsA_full {cs : List Value} {a : Array Value} (h : cs.length = a.size) : setsA a 0 cs = cs.toArray := by
  apply Array.toList_inj.1
  rw [setsA_list cs 0 a (by omega)]
  simp
theorem res_c {P : Program} {fn : Func} {p : Tmp} {ty : TypeId} {tmps : Array Value} {w : World} {k : Nat} {v : Value} (h : fn.results = #[.cell p ty]) (hp : tmps.getD p undef = .pointer (some ⟨k, 0, none⟩)) (hl : (loadVar ty ⟨k, 0, none⟩).run P w = .ok v w) : (results fn tmps).run P w = .ok v w := by
  simp only [results, h]
  simp [Sem.run_bind, Result.andThen, asAddr] at hp ⊢
  simp [hp, hl]
theorem res_ct {P : Program} {fn : Func} {p u : Tmp} {ty : TypeId} {tmps : Array Value} {w : World} {k : Nat} {v z : Value} (h : fn.results = #[.cell p ty, .tmp u]) (hp : tmps.getD p undef = .pointer (some ⟨k, 0, none⟩)) (hu : tmps.getD u undef = z) (hl : (loadVar ty ⟨k, 0, none⟩).run P w = .ok v w) : (results fn tmps).run P w = .ok (.tuple #[v, z]) w := by
  simp only [results, h]
  simp [Sem.run_bind, Result.andThen] at hp hu ⊢
  simp [hp, hu, hl, asAddr]
theorem res_cc {P : Program} {fn : Func} {p u : Tmp} {ty ty2 : TypeId} {tmps : Array Value} {w : World} {k k2 : Nat} {v v2 : Value} (h : fn.results = #[.cell p ty, .cell u ty2]) (hp : tmps.getD p undef = .pointer (some ⟨k, 0, none⟩)) (hu : tmps.getD u undef = .pointer (some ⟨k2, 0, none⟩)) (hl : (loadVar ty ⟨k, 0, none⟩).run P w = .ok v w) (hl2 : (loadVar ty2 ⟨k2, 0, none⟩).run P w = .ok v2 w) : (results fn tmps).run P w = .ok (.tuple #[v, v2]) w := by
  simp only [results, h]
  simp [Sem.run_bind, Result.andThen] at hp hu ⊢
  simp [hp, hu, hl, hl2, asAddr]
/-- What is there is stored: nothing turns. -/
theorem Blk.setCell_same {w : World} {k : Nat} {t : TypeId} {a : Array Value} (h : Blk w k t a) {i : Nat} {v : Value} (hi : a[i]? = some v) : w.setCell ⟨k, i, none⟩ v = w := by
  have hb := h.set i v
  rw [h.same hi] at hb
  obtain ⟨hlt, hk⟩ := Array.getElem?_eq_some_iff.1 h
  have hh : (w.setCell ⟨k, i, none⟩ v).heap = w.heap := by
    apply Array.ext
    · simp
    · intro j h1 h2
      by_cases e : j = k
      · subst e
        obtain ⟨_, hb'⟩ := Array.getElem?_eq_some_iff.1 hb
        rw [hb', hk]
      · have := Below.heap_setCell w ⟨k, i, none⟩ v j (fun x => e x)
        rw [Array.getElem?_eq_getElem h1, Array.getElem?_eq_getElem h2] at this
        exact Option.some.inj this
  cases w
  simp only [World.setCell] at hh ⊢
  rw [hh]
theorem Blk.setCells_same {k : Nat} {t : TypeId} {a : Array Value} : ∀ (cs : List Value) (o : Nat) (w : World), Blk w k t a → (∀ (j : Nat) v, cs[j]? = some v → a[o + j]? = some v) → w.setCells k o cs = w
  | [], _, _, _, _ => rfl
  | v :: r, o, w, h, hc => by
    rw [World.setCells, h.setCell_same (by simpa using hc 0 v rfl)]
    exact Blk.setCells_same r (o + 1) w h (fun j u hj => by have := hc (j + 1) u (by simpa using hj); rwa [show o + (j + 1) = o + 1 + j by omega] at this)
theorem quiet_store_same {P : Program} {C : World → Prop} {o : Oper} {a : Act} {K : Act → Prop} (t : TypeId) (x y : Operand) (ho : o.op = .store t x y) (k : Nat) (T : TypeId) (cs : List Value)
    (hx : a.eval x = .pointer (some ⟨k, 0, none⟩)) (hy : a.eval y = .agg cs.toArray) (hi : (P.info? t).map (·.size) = some cs.length) (hB : ∀ w, C w → Blk w k T cs.toArray) (h1 : ∀ v ∈ cs, v.oneCell' = true) (hd : o.dst = none) (hk : K a) : o.quiet P a C K := by
  refine ⟨undef, fun w hw => ?_, by rw [hd]; exact hk⟩
  have B := hB w hw
  have hst := run_storeCells_cells (P := P) k 0 cs 0 w (fun j hj => Option.isSome_iff_exists.2 ⟨_, by simp only [Nat.zero_add]; exact B.cell (Array.getElem?_eq_getElem (by simpa using hj))⟩) (fun j hj => B.frozen _) h1
  have hsame := B.setCells_same cs 0 w (fun j v hj => by simpa using hj)
  unfold Oper.quietAt execOp
  cases hq : P.info? t with
  | none => simp [hq] at hi
  | some i =>
    have hs : cs.length = i.size := by simp [hq] at hi; omega
    simp only [ho, hx, hy, Instr.storeAt, Instr.sureAddr, Sem.run_bind, Sem.run_pure, Result.andThen_ok]
    simp [storeVar, sizeOf, typeInfo, hq, Value.cells, hs, hst, Result.andThen, hsame, Oper.quietUpon]
end Go.Proofs.Ytfmfknjjhemnoaa
