/- Blocks of cells as arrays; the program's head in memory; slices of commands that it holds. -/
/- The reference's scan (U, Se, Range, Ranged, Signed, commands) and its small functions. -/
/- Structs and cells that are loaded from blocks, and stored into them. -/
/- Headers and parameter sets in memory: loads, stores, results that lie in cells. -/
/- The laws' own check, read, write, At and bitsOf. -/
import Derived.Test.YtojahafmfcfpaaaDoorMkP
import Derived.Test.YtojahafmfcfpaaaDoorMg1
import Derived.Test.YtojahafmfcfpaaaDoorMg9
import Derived.RangeFuncBox
import Derived.Test.YtojahafmfcfpaaaDoorMg10
import Derived.Test.YtojahafmfcfpaaaDoorMg8
import Derived.Test.YtojahafmfcfpaaaDoorMg2
import Derived.Laws.IdiomCopy
import Derived.Deep.QuietTactic
import Derived.BigQuiet
section
set_option maxRecDepth 20000
namespace Go.Proofs.YtojahafmfcfpaaaDoor
open Go.RowKit
set_option linter.unusedVariables false
set_option linter.unusedSimpArgs false

/-- Block k holds the cells a. -/
def Blk (w : World) (k : Nat) (t : TypeId) (a : Array Value) : Prop := w.heap[k]? = some (.cells a t (0, 0))
section
variable {w w' : World} {k : Nat} {t : TypeId} {a : Array Value}
theorem Blk.lt (h : Blk w k t a) : k < w.heap.size := (Array.getElem?_eq_some_iff.1 h).1
theorem Blk.cell (h : Blk w k t a) {i : Nat} {v : Value} (hi : a[i]? = some v) : w.cell? ⟨k, i, none⟩ = some v := by simp [World.cell?, show w.heap[k]? = _ from h, hi]
theorem Blk.frozen (h : Blk w k t a) (i : Nat) : w.frozen? ⟨k, i, none⟩ = false := by simp [World.frozen?, show w.heap[k]? = _ from h]
theorem Blk.new (w : World) (t : TypeId) (a : Array Value) : Blk (w.alloc (.cells a t)) w.heap.size t a := World.alloc_heap_new w _
theorem Blk.set (h : Blk w k t a) (i : Nat) (v : Value) : Blk (w.setCell ⟨k, i, none⟩ v) k t (a.setIfInBounds i v) := by
  obtain ⟨hlt, hk⟩ := Array.getElem?_eq_some_iff.1 h
  show (w.heap.modify k _)[k]? = _
  rw [Array.getElem?_eq_getElem (by rw [Array.size_modify]; exact hlt), Array.getElem_modify_self, hk]
  rfl
theorem Blk.only {S : List Nat} (h : Blk w k t a) (o : Only S w w') (hk : k ∉ S) : Blk w' k t a := (o.block k h.lt hk).trans h
theorem Blk.drewN (h : Blk w k t a) (n : Nat) : Blk (w.drewN n) k t a := h
theorem Blk.same (h : Blk w k t a) {i : Nat} {v : Value} (hi : a[i]? = some v) : a.setIfInBounds i v = a := by
  apply Array.ext
  · simp
  · intro j h1 h2
    rw [Array.getElem_setIfInBounds]
    split
    · rename_i e
      subst e
      rw [Array.getElem?_eq_getElem (by simpa using h1)] at hi
      exact (Option.some.inj hi).symm
    · rfl
end
/-- The cells of a header, whose lists are the slices mv and kv. -/
def hC (x : HV) (mv kv : Value) : List Value :=
  [.int .i64 x.fi, .bool x.intra, .bool x.whole, .int .i64 x.pps, .int .i64 x.fr, .int .i64 x.idr, .int .i64 x.poc, .bool x.over, .int .i64 x.refs, .bool x.listed, mv, .bool x.f0, .bool x.f1, .bool x.ad, kv, .int .i64 x.ini, .int .i64 x.qp, .int .i64 x.fil, .int .i64 x.a, .int .i64 x.b]
def sL (x : SV) : List Value := [.int .u8 x.pr, .int .u8 x.fl, .int .u8 x.lv, .int .i64 x.id, .int .i64 x.fb, .int .i64 x.pb, .int .i64 x.rf, .int .i64 x.wd, .int .i64 x.ht]
def pL (x : PV) : List Value := [.int .i64 x.id, .int .i64 x.sps, .bool x.cab, .int .i64 x.rf, .int .i64 x.r1, .int .i64 x.qp, .int .i64 x.qs, .int .i64 x.ch, .bool x.db, .bool x.nt]
/-- The cells of a head. -/
def hdC (x : HV) (mv kv : Value) (un : UN) (d1 d2 : Value) : Array Value := (hC x mv kv ++ (([.int .u8 un.ref, .bool un.idr] : List Value) ++ (pL un.p ++ (sL un.s ++ [d1, d2])))).toArray
/-- The header as a value. -/
def hV (x : HV) (mv kv : Value) : Value := .agg (hC x mv kv).toArray
/-- A slice of commands, apart from the blocks of a list. -/
structure Sl (w : World) (v : Value) (l : List (Int × Int × Int)) (S : List Nat) : Prop where
  h : HoldsM w v l
  d : ∀ ad n c, v = .slice (some ad) n c → l ≠ [] → ad.block ∉ S
section
variable {w w' : World} {v : Value} {l : List (Int × Int × Int)} {S T : List Nat}
theorem HoldsM.only2 (h : HoldsM w v l) (k : Only S w w') (hd : ∀ ad n c, v = .slice (some ad) n c → l ≠ [] → ad.block ∉ S) : HoldsM w' v l := by
  obtain ⟨a, c, rfl, h1, h2, h3⟩ := h
  refine ⟨a, c, rfl, h1, h2, ?_⟩
  by_cases h0 : l = []
  · exact .inl h0
  · rcases h3 with h3 | ⟨b, o, rfl, hc⟩
    · exact absurd h3 h0
    · exact .inr ⟨b, o, rfl, fun j x hj => (hc j x hj).only k (hd _ _ _ rfl h0)⟩
theorem Sl.only (h : Sl w v l S) (k : Only T w w') (hT : ∀ x, x ∈ T → x ∈ S ∨ w.heap.size ≤ x) : Sl w' v l S := by
  refine ⟨h.h.only2 k (fun ad n c e hl hm => ?_), h.d⟩
  rcases hT _ hm with e2 | e2
  · exact h.d ad n c e hl e2
  · subst e
    exact absurd (h.h.lt hl) (by omega)
theorem Sl.mono (h : Sl w v l S) (hT : ∀ x, x ∈ T → x ∈ S ∨ w.heap.size ≤ x) : Sl w v l T := by
  refine ⟨h.h, fun ad n c e hl hm => ?_⟩
  rcases hT _ hm with e2 | e2
  · exact h.d ad n c e hl e2
  · subst e
    exact absurd (h.h.lt hl) (by omega)
theorem Sl.none (w : World) (S : List Nat) : Sl w (.slice none 0 0) [] S := ⟨holdsM_none w, fun _ _ _ e => by cases e⟩
theorem Sl.step (h : Sl w v l S) (k : Only T w w') (hT : ∀ x, x ∈ T → x ∈ S ∨ w.heap.size ≤ x) {U : List Nat} (hU : ∀ x, x ∈ U → x ∈ S ∨ w.heap.size ≤ x) : Sl w' v l U := by
  refine ⟨(h.only k hT).h, fun ad n c e hl hm => ?_⟩
  rcases hU _ hm with e2 | e2
  · exact h.d ad n c e hl e2
  · subst e
    exact absurd (h.h.lt hl) (by omega)
end
/-- How a code lies in memory: its functions, and the number that they captured, in the block K. -/
def CdAt (w : World) (cv : Value) (K : Nat) : Cd → Prop
  | .u n => cv = .agg #[.func (.func 69) #[] #[.pointer (some ⟨K, 0, none⟩)], .func (.func 71) #[] #[.pointer (some ⟨K, 0, none⟩)], .int .i64 0, .int .i64 (2 ^ n.toNat - 1)] ∧ Boxed w K 3 (.int .i64 n)
  | .ue a b => cv = .agg #[.func (.func 72) #[] #[.pointer (some ⟨K, 0, none⟩)], .func (.func 74) #[] #[.pointer (some ⟨K, 0, none⟩)], .int .i64 a, .int .i64 b] ∧ Boxed w K 3 (.int .i64 a)
  | .se a b => cv = .agg #[.func (.func 81) #[] #[], .func (.func 83) #[] #[], .int .i64 a, .int .i64 b] ∧ K < w.heap.size
theorem CdAt.lt {w : World} {cv : Value} {K : Nat} {c : Cd} (h : CdAt w cv K c) : K < w.heap.size := by
  cases c with
  | u n => exact h.2.lt
  | ue a b => exact h.2.lt
  | se a b => exact h.2
theorem CdAt.only {S : List Nat} {w w' : World} {cv : Value} {K : Nat} {c : Cd} (h : CdAt w cv K c) (k : Only S w w') (hS : K ∉ S) : CdAt w' cv K c := by
  cases c with
  | u n => exact ⟨h.1, boxed_only h.2 k hS⟩
  | ue a b => exact ⟨h.1, boxed_only h.2 k hS⟩
  | se a b => exact ⟨h.1, Nat.lt_of_lt_of_le h.2 k.size⟩
/-- How the functions that go through a list lie in memory. -/
def cmsV : Bool → Value
  | false => .agg #[.func (.func 75) #[] #[], .func (.func 76) #[] #[], .func (.func 77) #[] #[]]
  | true => .agg #[.func (.func 78) #[] #[], .func (.func 79) #[] #[], .func (.func 80) #[] #[]]
end Go.Proofs.YtojahafmfcfpaaaDoor

end
section
set_option maxRecDepth 20000
namespace Go.Proofs.YtojahafmfcfpaaaDoor
open Go.RowKit
set_option linter.unusedVariables false
set_option linter.unusedSimpArgs false

/-- What lacks answers. -/
def lkR (a b : Bool) : Int := if (a || b) = true then 0 else 2
/-- What number answers. -/
def nmR (has : Bool) (n lo hi : Int) : Int := if has = true then (if inB n lo hi = true then 0 else 3) else if n = 0 then 0 else 2
end Go.Proofs.YtojahafmfcfpaaaDoor

end
section
set_option maxRecDepth 20000
namespace Go.Proofs.YtojahafmfcfpaaaDoor
open Go.RowKit
set_option linter.unusedVariables false
set_option linter.unusedSimpArgs false

theorem info_hdr : (Tryd.prog.info? 25).map (·.size) = some 20 := by kernel_rfl
theorem info_pps : (Tryd.prog.info? 27).map (·.size) = some 10 := by kernel_rfl
theorem info_sps : (Tryd.prog.info? 29).map (·.size) = some 9 := by kernel_rfl
/-- A struct is loaded from its block. -/
theorem load_blk {P : Program} {w : World} {ops : Array Oper} {rest : List Oper} {o : Oper} {a : Act} {Q : Exit → Act → World → Prop} (hg : o.guard = none) (t : TypeId) (x : Operand) (ho : o.op = .load t x) (k : Nat) (T : TypeId) (cs : List Value)
    (hx : a.eval x = .pointer (some ⟨k, 0, none⟩)) (hB : Blk w k T cs.toArray) (hl : ∀ w, (∀ j v, cs[j]? = some v → w.cell? ⟨k, j, none⟩ = some v) → (Instr.loadAt t (.pointer (some ⟨k, 0, none⟩))).run P w = .ok (.agg cs.toArray) w)
    (h : wpList P ops Q rest (a.put o.dst (.agg cs.toArray)) w) : wpList P ops Q (o :: rest) a w := by
  refine wpList_plain hg fun K hK => ?_
  have hl' := hl w (fun j v hj => hB.cell (by simpa using hj))
  unfold Oper.wp execOp
  simp only [ho, hx]
  simp [hl', Result.andThen]
  exact hK _ _ (by simpa using h)
theorem hl_hdr (k : Nat) (x : HV) (mv kv : Value) (w : World) (hc : ∀ j v, (hC x mv kv)[j]? = some v → w.cell? ⟨k, j, none⟩ = some v) : (Instr.loadAt 25 (.pointer (some ⟨k, 0, none⟩))).run Tryd.prog w = .ok (.agg (hC x mv kv).toArray) w := by
  have add : ∀ j : Nat, (⟨k, 0, none⟩ : Addr).add j = ⟨k, j, none⟩ := fun j => by cases j <;> simp [Addr.add]
  have hl := run_loadCells_list (P := Tryd.prog) w ⟨k, 0, none⟩ (hC x mv kv) (fun j v hj => by rw [add]; exact hc j v hj)
  rw [show (hC x mv kv).length = 20 from rfl] at hl
  simp only [Instr.loadAt, Instr.sureAddr, Sem.run_bind, Sem.run_pure, Result.andThen_ok, loadVar]
  simp [hl]
theorem hl_pps (k : Nat) (x : PV) (w : World) (hc : ∀ j v, (pL x)[j]? = some v → w.cell? ⟨k, j, none⟩ = some v) : (Instr.loadAt 27 (.pointer (some ⟨k, 0, none⟩))).run Tryd.prog w = .ok (.agg (pL x).toArray) w := by
  have add : ∀ j : Nat, (⟨k, 0, none⟩ : Addr).add j = ⟨k, j, none⟩ := fun j => by cases j <;> simp [Addr.add]
  have hl := run_loadCells_list (P := Tryd.prog) w ⟨k, 0, none⟩ (pL x) (fun j v hj => by rw [add]; exact hc j v hj)
  rw [show (pL x).length = 10 from rfl] at hl
  simp only [Instr.loadAt, Instr.sureAddr, Sem.run_bind, Sem.run_pure, Result.andThen_ok, loadVar]
  simp [hl]
theorem hl_sps (k : Nat) (x : SV) (w : World) (hc : ∀ j v, (sL x)[j]? = some v → w.cell? ⟨k, j, none⟩ = some v) : (Instr.loadAt 29 (.pointer (some ⟨k, 0, none⟩))).run Tryd.prog w = .ok (.agg (sL x).toArray) w := by
  have add : ∀ j : Nat, (⟨k, 0, none⟩ : Addr).add j = ⟨k, j, none⟩ := fun j => by cases j <;> simp [Addr.add]
  have hl := run_loadCells_list (P := Tryd.prog) w ⟨k, 0, none⟩ (sL x) (fun j v hj => by rw [add]; exact hc j v hj)
  rw [show (sL x).length = 9 from rfl] at hl
  simp only [Instr.loadAt, Instr.sureAddr, Sem.run_bind, Sem.run_pure, Result.andThen_ok, loadVar]
  simp [hl]
/-- The checks of unit and parameter sets, in their order. -/
theorem unE_cases (un : UN) : (isU un = false ∧ unE un = 2) ∨ (isU un = true ∧ okS un.s = false ∧ unE un = 3) ∨ (isU un = true ∧ okS un.s = true ∧ okP un.p = false ∧ unE un = 3) ∨
    (isU un = true ∧ okS un.s = true ∧ okP un.p = true ∧ un.p.sps ≠ un.s.id ∧ unE un = 2) ∨ (isU un = true ∧ okS un.s = true ∧ okP un.p = true ∧ un.p.sps = un.s.id ∧ unE un = 0) := by
  unfold unE
  cases isU un <;> cases okS un.s <;> cases okP un.p <;> by_cases h : un.p.sps = un.s.id <;> simp [h]
/-- Cells of a block, one after another. -/
def setsA (a : Array Value) : Nat → List Value → Array Value
  | _, [] => a
  | o, v :: r => setsA (a.setIfInBounds o v) (o + 1) r
theorem Blk.sets {k : Nat} {t : TypeId} : ∀ (cs : List Value) (o : Nat) (w : World) (a : Array Value), Blk w k t a → Blk (w.setCells k o cs) k t (setsA a o cs)
  | [], _, _, _, h => h
  | v :: r, o, w, a, h => Blk.sets r (o + 1) _ _ (h.set o v)
theorem only_setCells {k : Nat} : ∀ (cs : List Value) (o : Nat) (w : World), Only [k] w (w.setCells k o cs)
  | [], _, w => Only.refl _ w
  | v :: r, o, w => ((Only.refl [k] w).setCell (p := ⟨k, o, none⟩) (.inl (by simp)) v).trans (only_setCells r (o + 1) _)
theorem wpList_store_cells {P : Program} {w w' : World} {ops : Array Oper} {rest : List Oper} {o : Oper} {a : Act} {Q : Exit → Act → World → Prop} (hg : o.guard = none) (t : TypeId) (x y : Operand) (ho : o.op = .store t x y)
    (A off : Nat) (cs : Array Value) (hx : a.eval x = .pointer (some ⟨A, off, none⟩)) (hy : a.eval y = .agg cs) (hi : (P.info? t).map (·.size) = some cs.size)
    (hc : ∀ j, j < cs.toList.length → (w.cell? ⟨A, off + 0 + j, none⟩).isSome = true) (hf : ∀ j, j < cs.toList.length → w.frozen? ⟨A, off + 0 + j, none⟩ = false) (h1 : ∀ v ∈ cs.toList, v.oneCell' = true)
    (hw : w' = w.setCells A (off + 0) cs.toList) (h : wpList P ops Q rest (a.put o.dst undef) w') : wpList P ops Q (o :: rest) a w := by
  subst hw
  refine wpList_plain hg fun K hK => ?_
  have hst := run_storeCells_cells (P := P) A off cs.toList 0 w hc hf h1
  unfold Oper.wp execOp
  cases hq : P.info? t with
  | none => simp [hq] at hi
  | some i =>
    have hs : cs.size = i.size := by simp [hq] at hi; omega
    simp only [ho, hx, hy, Instr.storeAt, Instr.sureAddr, Sem.run_bind, Sem.run_pure, Result.andThen_ok]
    simp [storeVar, sizeOf, typeInfo, hq, Value.cells, hs, hst, Result.andThen]
    exact hK _ _ (by simpa using h)
theorem store_blk {P : Program} {w : World} {ops : Array Oper} {rest : List Oper} {o : Oper} {a : Act} {Q : Exit → Act → World → Prop} (hg : o.guard = none) (t : TypeId) (x y : Operand) (ho : o.op = .store t x y) (k off : Nat) (T : TypeId) (A : Array Value) (cs : List Value)
    (hx : a.eval x = .pointer (some ⟨k, off, none⟩)) (hy : a.eval y = .agg cs.toArray) (hi : (P.info? t).map (·.size) = some cs.length) (hB : Blk w k T A) (hl : off + cs.length ≤ A.size) (h1 : ∀ v ∈ cs, v.oneCell' = true)
    (h : ∀ w', Blk w' k T (setsA A off cs) → Only [k] w w' → wpList P ops Q rest (a.put o.dst undef) w') : wpList P ops Q (o :: rest) a w := by
  refine wpList_store_cells hg t x y ho k off cs.toArray hx hy (by simpa using hi) (fun j hj => ?_) (fun j hj => hB.frozen _) (by simpa using h1) rfl (h _ (hB.sets cs off w A) (only_setCells cs off w))
  have hj' : off + 0 + j < A.size := by simp at hj; omega
  exact Option.isSome_iff_exists.2 ⟨_, hB.cell (Array.getElem?_eq_getElem hj')⟩
theorem setsA_p (x : HV) (un : UN) (mv kv d1 d2 : Value) (p : PV) : setsA (hdC x mv kv un d1 d2) 22 (pL p) = hdC x mv kv { un with p := p } d1 d2 := by
  simp [setsA, hdC, hC, pL, sL]
theorem setsA_s (x : HV) (un : UN) (mv kv d1 d2 : Value) (q : SV) : setsA (hdC x mv kv un d1 d2) 32 (sL q) = hdC x mv kv { un with s := q } d1 d2 := by
  simp [setsA, hdC, hC, pL, sL]
theorem hdC_size (x : HV) (un : UN) (mv kv d1 d2 : Value) : (hdC x mv kv un d1 d2).size = 43 := by simp [hdC, hC, pL, sL]
theorem one_pL (x : PV) : ∀ v ∈ pL x, v.oneCell' = true := by
  intro u h
  simp [pL] at h
  rcases h with h | h | h | h | h | h | h | h | h | h <;> (subst h; rfl)
theorem one_sL (x : SV) : ∀ v ∈ sL x, v.oneCell' = true := by
  intro u h
  simp [sL] at h
  rcases h with h | h | h | h | h | h | h | h | h <;> (subst h; rfl)
end Go.Proofs.YtojahafmfcfpaaaDoor

end
section
set_option maxRecDepth 20000
namespace Go.Proofs.YtojahafmfcfpaaaDoor
open Go.RowKit
set_option linter.unusedVariables false
set_option linter.unusedSimpArgs false

/-- A struct is loaded from the beginning of its block. -/
theorem load_part {P : Program} {w : World} {ops : Array Oper} {rest : List Oper} {o : Oper} {a : Act} {Q : Exit → Act → World → Prop} (hg : o.guard = none) (t : TypeId) (x : Operand) (ho : o.op = .load t x) (k : Nat) (T : TypeId) (cs : List Value) (A : Array Value)
    (hx : a.eval x = .pointer (some ⟨k, 0, none⟩)) (hB : Blk w k T A) (hA : ∀ (j : Nat) (v : Value), cs[j]? = some v → A[j]? = some v) (hl : ∀ w, (∀ j v, cs[j]? = some v → w.cell? ⟨k, j, none⟩ = some v) → (Instr.loadAt t (.pointer (some ⟨k, 0, none⟩))).run P w = .ok (.agg cs.toArray) w)
    (h : wpList P ops Q rest (a.put o.dst (.agg cs.toArray)) w) : wpList P ops Q (o :: rest) a w := by
  refine wpList_plain hg fun K hK => ?_
  have hl' := hl w (fun j v hj => hB.cell (hA j v hj))
  unfold Oper.wp execOp
  simp only [ho, hx]
  simp [hl', Result.andThen]
  exact hK _ _ (by simpa using h)
theorem hdC_hC (x : HV) (mv kv : Value) (un : UN) (d1 d2 : Value) : ∀ (j : Nat) (v : Value), (hC x mv kv)[j]? = some v → (hdC x mv kv un d1 d2)[j]? = some v := by
  intro j v h
  unfold hdC
  rw [List.getElem?_toArray, List.getElem?_append_left (List.getElem?_eq_some_iff.1 h).1]
  exact h
theorem one_hC (x : HV) {mv kv : Value} (h1 : mv.oneCell' = true) (h2 : kv.oneCell' = true) : ∀ v ∈ hC x mv kv, v.oneCell' = true := by
  intro u h
  simp [hC] at h
  rcases h with h | h | h | h | h | h | h | h | h | h | h | h | h | h | h | h | h | h | h | h <;> (subst h; first | rfl | exact h1 | exact h2)
theorem setsA_h (x y : HV) (mv kv mv' kv' : Value) : setsA (hC x mv kv).toArray 0 (hC y mv' kv') = (hC y mv' kv').toArray := by simp [setsA, hC]
theorem setsA_list : ∀ (cs : List Value) (o : Nat) (a : Array Value), o + cs.length = a.size → (setsA a o cs).toList = a.toList.take o ++ cs := by
  intro cs
  induction cs with
  | nil =>
    intro o a h
    rw [setsA, List.append_nil, List.take_of_length_le (by simp at h ⊢; omega)]
  | cons v r ih =>
    intro o a h
    simp only [List.length_cons] at h
    rw [setsA, ih (o + 1) _ (by simp; omega), Array.toList_setIfInBounds, List.take_succ_eq_append_getElem (by simp; omega)]
    simp [List.take_set]
    exact List.set_eq_of_length_le (by rw [List.length_take]; exact Nat.min_le_left _ _)
theorem setsA_full {cs : List Value} {a : Array Value} (h : cs.length = a.size) : setsA a 0 cs = cs.toArray := by
  apply Array.toList_inj.1
  rw [setsA_list cs 0 a (by omega)]
  simp
theorem info_hdr' (x : HV) (mv kv : Value) : (Tryd.prog.info? 25).map (·.size) = some (hC x mv kv).length := info_hdr
/-- A header's cells, one by one. -/
theorem Blk.hdr {w : World} {k : Nat} {t : TypeId} {x : HV} {mv kv : Value} (h : Blk w k t (hC x mv kv).toArray) :
    w.cell? ⟨k, 0, none⟩ = some (.int .i64 x.fi) ∧ w.cell? ⟨k, 1, none⟩ = some (.bool x.intra) ∧ w.cell? ⟨k, 2, none⟩ = some (.bool x.whole) ∧ w.cell? ⟨k, 3, none⟩ = some (.int .i64 x.pps) ∧ w.cell? ⟨k, 4, none⟩ = some (.int .i64 x.fr) ∧ w.cell? ⟨k, 5, none⟩ = some (.int .i64 x.idr) ∧ w.cell? ⟨k, 6, none⟩ = some (.int .i64 x.poc) ∧
    w.cell? ⟨k, 7, none⟩ = some (.bool x.over) ∧ w.cell? ⟨k, 8, none⟩ = some (.int .i64 x.refs) ∧ w.cell? ⟨k, 9, none⟩ = some (.bool x.listed) ∧ w.cell? ⟨k, 10, none⟩ = some mv ∧ w.cell? ⟨k, 11, none⟩ = some (.bool x.f0) ∧ w.cell? ⟨k, 12, none⟩ = some (.bool x.f1) ∧ w.cell? ⟨k, 13, none⟩ = some (.bool x.ad) ∧ w.cell? ⟨k, 14, none⟩ = some kv ∧
    w.cell? ⟨k, 15, none⟩ = some (.int .i64 x.ini) ∧ w.cell? ⟨k, 16, none⟩ = some (.int .i64 x.qp) ∧ w.cell? ⟨k, 17, none⟩ = some (.int .i64 x.fil) ∧ w.cell? ⟨k, 18, none⟩ = some (.int .i64 x.a) ∧ w.cell? ⟨k, 19, none⟩ = some (.int .i64 x.b) :=
  ⟨h.cell rfl, h.cell rfl, h.cell rfl, h.cell rfl, h.cell rfl, h.cell rfl, h.cell rfl, h.cell rfl, h.cell rfl, h.cell rfl, h.cell rfl, h.cell rfl, h.cell rfl, h.cell rfl, h.cell rfl, h.cell rfl, h.cell rfl, h.cell rfl, h.cell rfl, h.cell rfl⟩

/-! ### Results that lie in cells. -/
theorem lv_hdr {w : World} {k : Nat} {T : TypeId} {x : HV} {mv kv : Value} (h : Blk w k T (hC x mv kv).toArray) : (loadVar 25 ⟨k, 0, none⟩).run Tryd.prog w = .ok (hV x mv kv) w := by
  have add : ∀ j : Nat, (⟨k, 0, none⟩ : Addr).add j = ⟨k, j, none⟩ := fun j => by cases j <;> simp [Addr.add]
  have hl := run_loadCells_list (P := Tryd.prog) w ⟨k, 0, none⟩ (hC x mv kv) (fun j v hj => by rw [add]; exact h.cell (by simpa using hj))
  rw [show (hC x mv kv).length = 20 from rfl] at hl
  simp only [loadVar]
  simp [hl, hV]
theorem lv_pps {w : World} {k : Nat} {T : TypeId} {x : PV} (h : Blk w k T (pL x).toArray) : (loadVar 27 ⟨k, 0, none⟩).run Tryd.prog w = .ok (.agg (pL x).toArray) w := by
  have add : ∀ j : Nat, (⟨k, 0, none⟩ : Addr).add j = ⟨k, j, none⟩ := fun j => by cases j <;> simp [Addr.add]
  have hl := run_loadCells_list (P := Tryd.prog) w ⟨k, 0, none⟩ (pL x) (fun j v hj => by rw [add]; exact h.cell (by simpa using hj))
  rw [show (pL x).length = 10 from rfl] at hl
  simp only [loadVar]
  simp [hl]
theorem lv_sps {w : World} {k : Nat} {T : TypeId} {x : SV} (h : Blk w k T (sL x).toArray) : (loadVar 29 ⟨k, 0, none⟩).run Tryd.prog w = .ok (.agg (sL x).toArray) w := by
  have add : ∀ j : Nat, (⟨k, 0, none⟩ : Addr).add j = ⟨k, j, none⟩ := fun j => by cases j <;> simp [Addr.add]
  have hl := run_loadCells_list (P := Tryd.prog) w ⟨k, 0, none⟩ (sL x) (fun j v hj => by rw [add]; exact h.cell (by simpa using hj))
  rw [show (sL x).length = 9 from rfl] at hl
  simp only [loadVar]
  simp [hl]
theorem res_c {P : Program} {fn : Func} {p : Tmp} {ty : TypeId} {tmps : Array Value} {w : World} {k : Nat} {v : Value} (h : fn.results = #[.cell p ty]) (hp : tmps.getD p undef = .pointer (some ⟨k, 0, none⟩)) (hl : (loadVar ty ⟨k, 0, none⟩).run P w = .ok v w) : (results fn tmps).run P w = .ok v w := by
  simp only [results, h]
  simp [Sem.run_bind, Result.andThen, asAddr] at hp ⊢
  simp [hp, hl]
theorem res_ct {P : Program} {fn : Func} {p u : Tmp} {ty : TypeId} {tmps : Array Value} {w : World} {k : Nat} {v z : Value} (h : fn.results = #[.cell p ty, .tmp u]) (hp : tmps.getD p undef = .pointer (some ⟨k, 0, none⟩)) (hu : tmps.getD u undef = z) (hl : (loadVar ty ⟨k, 0, none⟩).run P w = .ok v w) : (results fn tmps).run P w = .ok (.tuple #[v, z]) w := by
  simp only [results, h]
  simp [Sem.run_bind, Result.andThen] at hp hu ⊢
  simp [hp, hu, hl, asAddr]
theorem res_cc {P : Program} {fn : Func} {p u : Tmp} {ty ty2 : TypeId} {tmps : Array Value} {w : World} {k k2 : Nat} {v v2 : Value} (h : fn.results = #[.cell p ty, .cell u ty2]) (hp : tmps.getD p undef = .pointer (some ⟨k, 0, none⟩)) (hu : tmps.getD u undef = .pointer (some ⟨k2, 0, none⟩)) (hl : (loadVar ty ⟨k, 0, none⟩).run P w = .ok v w) (hl2 : (loadVar ty2 ⟨k2, 0, none⟩).run P w = .ok v2 w) : (results fn tmps).run P w = .ok (.tuple #[v, v2]) w := by
  simp only [results, h]
  simp [Sem.run_bind, Result.andThen] at hp hu ⊢
  simp [hp, hu, hl, hl2, asAddr]
/-- What is there is stored: nothing turns. -/
theorem Blk.setCell_same {w : World} {k : Nat} {t : TypeId} {a : Array Value} (h : Blk w k t a) {i : Nat} {v : Value} (hi : a[i]? = some v) : w.setCell ⟨k, i, none⟩ v = w := by
  have hb := h.set i v
  rw [h.same hi] at hb
  obtain ⟨hlt, hk⟩ := Array.getElem?_eq_some_iff.1 h
  have hh : (w.setCell ⟨k, i, none⟩ v).heap = w.heap := by
    apply Array.ext
    · simp
    · intro j h1 h2
      by_cases e : j = k
      · subst e
        obtain ⟨_, hb'⟩ := Array.getElem?_eq_some_iff.1 hb
        rw [hb', hk]
      · have := Below.heap_setCell w ⟨k, i, none⟩ v j (fun x => e x)
        rw [Array.getElem?_eq_getElem h1, Array.getElem?_eq_getElem h2] at this
        exact Option.some.inj this
  cases w
  simp only [World.setCell] at hh ⊢
  rw [hh]
theorem Blk.setCells_same {k : Nat} {t : TypeId} {a : Array Value} : ∀ (cs : List Value) (o : Nat) (w : World), Blk w k t a → (∀ (j : Nat) v, cs[j]? = some v → a[o + j]? = some v) → w.setCells k o cs = w
  | [], _, _, _, _ => rfl
  | v :: r, o, w, h, hc => by
    rw [World.setCells, h.setCell_same (by simpa using hc 0 v rfl)]
    exact Blk.setCells_same r (o + 1) w h (fun j u hj => by have := hc (j + 1) u (by simpa using hj); rwa [show o + (j + 1) = o + 1 + j by omega] at this)
theorem quiet_store_same {P : Program} {C : World → Prop} {o : Oper} {a : Act} {K : Act → Prop} (t : TypeId) (x y : Operand) (ho : o.op = .store t x y) (k : Nat) (T : TypeId) (cs : List Value)
    (hx : a.eval x = .pointer (some ⟨k, 0, none⟩)) (hy : a.eval y = .agg cs.toArray) (hi : (P.info? t).map (·.size) = some cs.length) (hB : ∀ w, C w → Blk w k T cs.toArray) (h1 : ∀ v ∈ cs, v.oneCell' = true) (hd : o.dst = none) (hk : K a) : o.quiet P a C K := by
  refine ⟨undef, fun w hw => ?_, by rw [hd]; exact hk⟩
  have B := hB w hw
  have hst := run_storeCells_cells (P := P) k 0 cs 0 w (fun j hj => Option.isSome_iff_exists.2 ⟨_, by simp only [Nat.zero_add]; exact B.cell (Array.getElem?_eq_getElem (by simpa using hj))⟩) (fun j hj => B.frozen _) h1
  have hsame := B.setCells_same cs 0 w (fun j v hj => by simpa using hj)
  unfold Oper.quietAt execOp
  cases hq : P.info? t with
  | none => simp [hq] at hi
  | some i =>
    have hs : cs.length = i.size := by simp [hq] at hi; omega
    simp only [ho, hx, hy, Instr.storeAt, Instr.sureAddr, Sem.run_bind, Sem.run_pure, Result.andThen_ok]
    simp [storeVar, sizeOf, typeInfo, hq, Value.cells, hs, hst, Result.andThen, hsame, Oper.quietUpon]
end Go.Proofs.YtojahafmfcfpaaaDoor

end
section
set_option maxRecDepth 20000
namespace Go.Proofs.YtojahafmfcfpaaaDoor
open Go.RowKit
set_option linter.unusedVariables false

/-- The bits of a list that is valid; none of another one. -/
def bitsI (m : Bool) (l : List (Int × Int × Int)) : List Bool := if checkI m l = 0 then listB m l else []
theorem u_int (b : Nat) (s : ByteArray) (pos n : Nat) (N : Int) (hN : N = n) (w : World) (h : Rd w b s pos) (hn : n ≤ 64) (hle : pos + n ≤ 8 * s.size) :
    Calls Tryd.prog 70 #[.pointer (some ⟨b, 0, none⟩), .int .i64 N] w fun e w' => e = .returned (.tuple #[.int .u64 (valOf s pos n), .int .i64 0]) ∧ Rd w' b s (pos + n) ∧ Only [b] w w' := hN ▸ u_yes b s pos n w h hn hle
end Go.Proofs.YtojahafmfcfpaaaDoor

end
