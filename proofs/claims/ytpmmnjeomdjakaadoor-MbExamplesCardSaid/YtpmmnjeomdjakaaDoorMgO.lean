/- Rows of a macroblock in memory: a block more; what is turned elsewhere. -/
import Derived.Test.YtpmmnjeomdjakaaDoorMgC
import Derived.Test.YtpmmnjeomdjakaaDoorMcD
import Derived.Test.YtpmmnjeomdjakaaDoorMcG
import Derived.Test.YtpmmnjeomdjakaaDoorMmb17
import Derived.Test.YtpmmnjeomdjakaaDoorMmb14
namespace Go.Proofs.YtpmmnjeomdjakaaDoor
open Go.RowKit
set_option linter.unusedVariables false
set_option linter.unusedSimpArgs false

set_option maxHeartbeats 2000000 in
/-- A block more, behind the others. -/
theorem ownB_snoc {w0 w w3 : World} {s : Value} {bs : List (List Int)} (h : OwnB w0 w s bs) (o3 : Only [] w w3) {na : Option Addr} {x : List Int} {nc : Nat} (row : RowI w3 (.slice na x.length nc) x) (nw : ∀ g, g ∈ ownI (.slice na x.length nc) → w.heap.size ≤ g) (hl : bs.length + 1 ≤ 1000000) :
    ∃ sv2 w2, (Builtin.append_ #[26, 26] 26 #[s, .slice (some ⟨w3.heap.size, 0, none⟩) 1 1]).run Tryd.prog (w3.alloc (.cells (slC (na, x.length, nc)).toArray 24)) = .ok sv2 w2 ∧ OwnB w0 w2 sv2 (bs ++ [x]) ∧ Only (ownG s) w3 w2 := by
  obtain ⟨vs, h1, h2, h3⟩ := h
  obtain ⟨sv2, w2, hrun, hcol⟩ := (ColS.start (h1.step o3)).app1 slC_ok sl_row ((na, x.length, nc) : SlV) (by rw [h2]; exact hl)
  have c2 := ColS.back (h1.step o3) hcol
  refine ⟨sv2, w2, hrun, ⟨vs ++ [(na, x.length, nc)], c2, by rw [List.length_append, h2, List.length_append]; rfl, fun j v y hv hy => ?_⟩, hcol.only⟩
  have far : ∀ g, g ∈ ownG sv2 → g ∈ ownG s ∨ w3.heap.size ≤ g := hcol.new
  by_cases hj : j < vs.length
  · rw [List.getElem?_append_left hj] at hv
    rw [List.getElem?_append_left (by rw [← h2]; exact hj)] at hy
    obtain ⟨r1, r2⟩ := h3 j v y hv hy
    have r3 := r1.only0 o3
    refine ⟨r3.only hcol.only (fun g hg => (r2 g hg).2), fun g hg => ⟨(r2 g hg).1, fun h => ?_⟩⟩
    rcases far g h with h | h
    · exact (r2 g hg).2 h
    · have := r3.lt g hg; omega
  · have hj2 : j = vs.length := by
      have := (List.getElem?_eq_some_iff.1 hv).1
      simp at this
      omega
    subst hj2
    rw [List.getElem?_append_right (Nat.le_refl _), Nat.sub_self] at hv
    rw [List.getElem?_append_right (by rw [← h2]; omega), ← h2, Nat.sub_self] at hy
    simp only [List.getElem?_cons_zero, Option.some.injEq] at hv hy
    subst hv hy
    have ns : ∀ g, g ∈ ownI (SlV.sl (na, x.length, nc)) → g ∉ ownG s := fun g hg hs => by
      have := nw g hg
      have := h1.row.lt g hs
      omega
    refine ⟨row.only hcol.only ns, fun g hg => ⟨Nat.le_trans h1.only.size (nw g hg), fun h => ?_⟩⟩
    rcases far g h with h | h
    · exact ns g hg h
    · have := row.lt g hg; omega
theorem blk_row {α : Type} {C : α → List Value} {n : Nat} {E T : TypeId} {w : World} {p : Nat} {A : Array Value} {sv : Value} {l : List α} (hb : Blk w p T A) (h : RowG C n E w sv l) (hne : T ≠ E) : p ∉ ownG sv := by
  intro hg
  rcases h.2 with ⟨rfl, _⟩ | ⟨a, cap, cur, rfl, _, p1, _⟩
  · simp [ownG, Value.ownBlock] at hg
  · simp [ownG, Value.ownBlock] at hg
    subst hg
    rw [hb] at p1
    simp at p1
    exact hne p1.2
theorem mb_ne : (28 : TypeId) ≠ 3 ∧ (28 : TypeId) ≠ 36 ∧ (28 : TypeId) ≠ 24 := by decide
/-- Rows of a macroblock. -/
structure RAt (w : World) (x : MV) (rv vv bv : Value) : Prop where
  r : RowI w rv x.refs
  v : RowG vcC 2 36 w vv x.mvds
  b : ∃ vs : List SlV, RowG slC 1 24 w bv vs ∧ vs.length = x.blocks.length ∧ ∀ (j : Nat) (v : SlV) (y : List Int), vs[j]? = some v → x.blocks[j]? = some y → RowI w v.sl y
theorem RAt.at {w : World} {x : MV} {rv vv bv : Value} (h : RAt w x rv vv bv) : MAt w x rv vv bv := by
  obtain ⟨vs, h1, h2, h3⟩ := h.b
  exact ⟨h.r.holds, h.v.holds vcC_ok, vs, h1.holds slC_ok, h2, fun j v y hv hy => (h3 j v y hv hy).holds⟩
theorem OwnM.rat {w0 w : World} {x : MV} {rv vv bv : Value} (h : OwnM w0 w x rv vv bv) : RAt w x rv vv bv := by
  obtain ⟨vs, c, h2, h3⟩ := h.b
  exact ⟨h.r, h.v, vs, c.row, h2, fun j v y hv hy => (h3 j v y hv hy).1⟩
theorem RAt.step {w w' : World} {x : MV} {rv vv bv : Value} (h : RAt w x rv vv bv) (k : Only [] w w') : RAt w' x rv vv bv := by
  obtain ⟨vs, h1, h2, h3⟩ := h.b
  exact ⟨h.r.only0 k, h.v.only k (by simp), vs, h1.only k (by simp), h2, fun j v y hv hy => (h3 j v y hv hy).only0 k⟩
/-- A block that holds a macroblock is turned. -/
theorem RAt.turn {w w' : World} {x : MV} {rv vv bv : Value} {p : Nat} {A : Array Value} (h : RAt w x rv vv bv) (hb : Blk w p 28 A) (k : Only [p] w w') : RAt w' x rv vv bv := by
  obtain ⟨vs, h1, h2, h3⟩ := h.b
  have no : ∀ {α : Type} {C : α → List Value} {n : Nat} {E : TypeId} {sv : Value} {l : List α}, RowG C n E w sv l → 28 ≠ E → ∀ g, g ∈ ownG sv → g ∉ [p] := fun hr hne g hg hh => by
    simp at hh
    subst hh
    exact blk_row hb hr hne hg
  exact ⟨h.r.only k (fun g hg => no h.r.toG mb_ne.1 g ((mem_ownI _ _).1 hg)), h.v.only k (no h.v mb_ne.2.1), vs, h1.only k (no h1 mb_ne.2.2), h2, fun j v y hv hy => (h3 j v y hv hy).only k (fun g hg => no (h3 j v y hv hy).toG mb_ne.1 g ((mem_ownI _ _).1 hg))⟩
/-- The blocks are others, in rows of their own. -/
theorem RAt.blks {w0 w w2 : World} {x : MV} {rv vv bv sv : Value} {bs : List (List Int)} (h : RAt w x rv vv bv) (k : Only (ownG bv) w w2) (hb : OwnB w0 w2 sv bs) : RAt w2 { x with blocks := bs } rv vv sv := by
  obtain ⟨vs, h1, h2, h3⟩ := h.b
  obtain ⟨us, c, u2, u3⟩ := hb
  exact ⟨h.r.only k (fun g hg => rows_types h.r.toG h1 types_ne.2.1 g ((mem_ownI _ _).1 hg)), h.v.only k (rows_types h.v h1 types_ne.2.2), us, c.row, u2, fun j v y hv hy => (u3 j v y hv hy).1⟩
/-- The last ones are left out. -/
theorem RAt.take {w : World} {x : MV} {rv : Value} {vv : Value} {ba : Option Addr} {bc : Nat} (h : RAt w x rv vv (.slice ba x.blocks.length bc)) (m : Nat) (hm : m ≤ x.blocks.length) : MAt w { x with blocks := x.blocks.take m } rv vv (.slice ba m bc) := by
  obtain ⟨vs, h1, h2, h3⟩ := h.b
  refine ⟨h.r.holds, h.v.holds vcC_ok, vs.take m, ?_, ?_, fun j v y hv hy => ?_⟩
  · have := h1.holds slC_ok
    rw [← h2] at this
    exact this.part m (by omega)
  · show (vs.take m).length = (x.blocks.take m).length
    rw [List.length_take, List.length_take, h2]
  · have hy' : (x.blocks.take m)[j]? = some y := hy
    rw [List.getElem?_take] at hv hy'
    split at hv
    · rename_i hj
      rw [if_pos hj] at hy'
      exact (h3 j v y hv hy').holds
    · cases hv
theorem ii_ne : (24 : TypeId) ≠ 3 ∧ (24 : TypeId) ≠ 36 := by decide
/-- The first number of one block is left out. -/
theorem RAt.short {w : World} {x : MV} {rv vv bv : Value} (h : RAt w x rv vv bv) {i : Nat} {b : List Int} (hb : x.blocks[i]? = some b) (b2 : 2 ≤ b.length) :
    ∃ (g c : Nat) (cur : Array Value) (q d : Nat), bv = .slice (some ⟨g, 0, none⟩) x.blocks.length c ∧ Blk w g 24 cur ∧ cur[i]? = some (.slice (some ⟨q, 0, none⟩) b.length d) ∧ b.length ≤ d ∧ d ≤ maxLen ∧
      MAt (w.setCell ⟨g, i, none⟩ (.slice (some ⟨q, 1, none⟩) (b.length - 1) (d - 1))) { x with blocks := x.blocks.set i (b.drop 1) } rv vv bv := by
  obtain ⟨vs, h1, h2, h3⟩ := h.b
  have il : i < vs.length := by rw [h2]; exact (List.getElem?_eq_some_iff.1 hb).1
  obtain ⟨v, hv⟩ : ∃ v, vs[i]? = some v := ⟨_, List.getElem?_eq_getElem il⟩
  have rI := h3 i v b hv hb
  obtain ⟨x0, hx0⟩ : ∃ y, b[0]? = some y := ⟨_, List.getElem?_eq_getElem (by omega)⟩
  obtain ⟨q, d, cq, eq, bq, _⟩ := rI.blk hx0
  obtain ⟨g, c, cur, e, hB, hC⟩ := h1.blk slC_ok hv
  have hc := hC 0 v.sl rfl
  rw [Nat.mul_one, Nat.add_zero, eq] at hc
  obtain ⟨a', d', e', l1, l2, _⟩ := rI.holds
  rw [eq] at e'
  obtain ⟨ea, _, ed⟩ := Value.slice.inj e'
  subst ed
  have k1 : Only [g] w (w.setCell ⟨g, i, none⟩ (.slice (some ⟨q, 1, none⟩) (b.length - 1) (d - 1))) := (Only.refl _ _).setCell (.inl (by simp)) _
  subst e
  have no : ∀ {α : Type} {C : α → List Value} {n : Nat} {E : TypeId} {sv : Value} {l : List α}, RowG C n E w sv l → 24 ≠ E → ∀ z, z ∈ ownG sv → z ∉ [g] := fun hr hne z hz hh => by
    simp at hh
    subst hh
    exact blk_row hB hr hne hz
  refine ⟨g, c, cur, q, d, by rw [h2], hB, hc, l1, l2, ?_⟩
  have row' := h1.set1 i ((some ⟨q, 1, none⟩, b.length - 1, d - 1) : SlV) il
  refine ⟨(h.r.only k1 (fun z hz => no h.r.toG ii_ne.1 z ((mem_ownI _ _).1 hz))).holds, (h.v.only k1 (no h.v ii_ne.2)).holds vcC_ok, vs.set i (some ⟨q, 1, none⟩, b.length - 1, d - 1), row'.holds slC_ok, ?_, fun j u y hu hy => ?_⟩
  · show (vs.set i _).length = (x.blocks.set i (b.drop 1)).length
    rw [List.length_set, List.length_set, h2]
  · have hy' : (x.blocks.set i (b.drop 1))[j]? = some y := hy
    by_cases hj : j = i
    · subst hj
      rw [List.getElem?_set_self il] at hu
      rw [List.getElem?_set_self (by rw [← h2]; exact il)] at hy'
      obtain rfl := Option.some.inj hu
      obtain rfl := Option.some.inj hy'
      refine ⟨some ⟨q, 1, none⟩, d - 1, by rw [List.length_drop]; rfl, by rw [List.length_drop]; omega, by omega, .inr ⟨q, 1, rfl, fun k z hz => ?_⟩⟩
      rw [List.getElem?_drop] at hz
      have rh := rI.holds
      rw [eq] at rh
      obtain ⟨b', o', e2, hcell⟩ := rh.at hz
      cases e2
      rw [Nat.zero_add] at hcell
      refine k1.cell hcell (fun hh => ?_)
      simp at hh
      subst hh
      have hn := blk_row hB rI.toG ii_ne.1
      rw [eq] at hn
      exact hn (by simp [ownG, Value.ownBlock])
    · rw [List.getElem?_set_ne (fun e => hj e.symm)] at hu hy'
      have r2 := h3 j u y hu hy'
      exact (r2.only k1 (fun z hz => no r2.toG ii_ne.1 z ((mem_ownI _ _).1 hz))).holds
/-- A row of slices that is not its own is turned. -/
theorem RAt.leave {w w' : World} {x : MV} {rv vv bv : Value} {g : Nat} {A : Array Value} (h : RAt w x rv vv bv) (hb : Blk w g 24 A) (k : Only [g] w w') (hg : g ∉ ownG bv) : RAt w' x rv vv bv := by
  obtain ⟨vs, h1, h2, h3⟩ := h.b
  have no : ∀ {α : Type} {C : α → List Value} {n : Nat} {E : TypeId} {sv : Value} {l : List α}, RowG C n E w sv l → 24 ≠ E → ∀ z, z ∈ ownG sv → z ∉ [g] := fun hr hne z hz hh => by
    simp at hh
    subst hh
    exact blk_row hb hr hne hz
  exact ⟨h.r.only k (fun z hz => no h.r.toG ii_ne.1 z ((mem_ownI _ _).1 hz)), h.v.only k (no h.v ii_ne.2), vs, h1.only k (fun z hz hh => by simp at hh; subst hh; exact hg hz), h2, fun j v y hv hy => (h3 j v y hv hy).only k (fun z hz => no (h3 j v y hv hy).toG ii_ne.1 z ((mem_ownI _ _).1 hz))⟩
/-- The same, behind what makes memory alone. -/
theorem RAt.shortL {w : World} {x : MV} {rv vv bv : Value} (h : RAt w x rv vv bv) {i : Nat} {b : List Int} (hb : x.blocks[i]? = some b) (b2 : 2 ≤ b.length) :
    ∃ (g c : Nat) (cur : Array Value) (q d : Nat), bv = .slice (some ⟨g, 0, none⟩) x.blocks.length c ∧ Blk w g 24 cur ∧ cur[i]? = some (.slice (some ⟨q, 0, none⟩) b.length d) ∧ b.length ≤ d ∧ d ≤ maxLen ∧
      ∀ w', Only [] w w' → MAt (w'.setCell ⟨g, i, none⟩ (.slice (some ⟨q, 1, none⟩) (b.length - 1) (d - 1))) { x with blocks := x.blocks.set i (b.drop 1) } rv vv bv := by
  obtain ⟨g, c, cur, q, d, e, B, hc, l0, l1, _⟩ := h.short hb b2
  refine ⟨g, c, cur, q, d, e, B, hc, l0, l1, fun w' o => ?_⟩
  obtain ⟨g', c', cur', q', d', e', B', hc', _, _, M⟩ := (h.step o).short hb b2
  rw [e] at e'
  obtain rfl : g = g' := by simpa using (Value.slice.inj e').1
  have hq := (show w'.heap[g]? = _ from B.only o (by simp)).symm.trans (show w'.heap[g]? = _ from B')
  obtain rfl : cur = cur' := by simpa using hq
  rw [hc] at hc'
  obtain ⟨ea, _, ed⟩ := Value.slice.inj (Option.some.inj hc')
  obtain rfl : q = q' := by simpa using ea
  subst ed
  exact M
end Go.Proofs.YtpmmnjeomdjakaaDoor
