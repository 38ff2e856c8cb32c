/- Eight macroblocks in one row of memory, as MbExamples lays them. -/
import Derived.Test.YtpmmnjeomdjakaaDoorMhA
import Derived.Test.YtpmmnjeomdjakaaDoorMgA
import Derived.Test.YtpmmnjeomdjakaaDoorMmb21
namespace Go.Proofs.YtpmmnjeomdjakaaDoor
open Go.RowKit
set_option linter.unusedVariables false
set_option linter.unusedSimpArgs false

abbrev El := MV × SlV × SlV × SlV
def elC (e : El) : List Value := mC e.1 e.2.1.sl e.2.2.1.sl e.2.2.2.sl
theorem elC_ok : CellsN elC 29 := ⟨fun _ => rfl, fun x u h => one_mC x.1 rfl rfl rfl u h, by omega⟩
/-- What the laws ask of one of them. -/
structure ElOk (w : World) (e : El) : Prop where
  m : MAt w e.1 e.2.1.sl e.2.2.1.sl e.2.2.2.sl
  i : MIn e.1
  b : ∀ l, l ∈ e.1.blocks → l.length ≤ 17592186043904
  p : e.1.pcm.size ≤ maxLen
theorem ElOk.only0 {w w' : World} {e : El} (h : ElOk w e) (k : Only [] w w') : ElOk w' e := ⟨h.m.only0 k, h.i, h.b, h.p⟩
theorem ElOk.old {S : List Nat} {w w' : World} {e : El} (h : ElOk w e) (k : Only S w w') (hS : ∀ g, g ∈ S → w.heap.size ≤ g) : ElOk w' e := ⟨h.m.old k hS, h.i, h.b, h.p⟩
theorem ElOk.poke {w : World} {g m : Nat} {z : Int} {e : El} (h : ElOk w e) (hc : w.cell? ⟨g, m, none⟩ = some (.int .i64 z)) (x : Int) : ∃ e', ElOk (w.setCell ⟨g, m, none⟩ (.int .i64 x)) e' ∧ elC e' = elC e := by
  obtain ⟨y, s1, s2, s3⟩ := e
  obtain ⟨y', h1, h2⟩ := h.m.poke (x := x) hc
  refine ⟨(y', s1, s2, s3), ⟨h1, h2.in_ h.i, ?_, ?_⟩, h2.cells _ _ _⟩
  · obtain ⟨r, v, b, rfl, hb⟩ := h2
    intro l hl
    obtain ⟨l0, hl0, e⟩ := hb l hl
    rw [e]
    exact h.b l0 hl0
  · obtain ⟨r, v, b, rfl, hb⟩ := h2
    exact h.p
theorem poke_all {w : World} {g m : Nat} {z : Int} (hc : w.cell? ⟨g, m, none⟩ = some (.int .i64 z)) (x : Int) : ∀ L : List El, (∀ e, e ∈ L → ElOk w e) → ∃ L' : List El, (∀ e, e ∈ L' → ElOk (w.setCell ⟨g, m, none⟩ (.int .i64 x)) e) ∧ cellsG elC L' = cellsG elC L ∧ L'.length = L.length
  | [], _ => ⟨[], fun e h => (by cases h), rfl, rfl⟩
  | e :: L, h => by
    obtain ⟨e', h1, h2⟩ := (h e (by simp)).poke hc x
    obtain ⟨L', h3, h4, h5⟩ := poke_all hc x L (fun e he => h e (List.mem_cons_of_mem _ he))
    refine ⟨e' :: L', fun f hf => ?_, by rw [cellsG, cellsG, h2, h4], by simp [h5]⟩
    rcases List.mem_cons.1 hf with rfl | hf
    · exact h1
    · exact h3 f hf
theorem el_set : ∀ (L : List El) (k : Nat) (e e' : El) (off : Nat) (v : Value), L[k]? = some e → (elC e).set off v = elC e' → off < 29 → (cellsG elC L).set (k * 29 + off) v = cellsG elC (L.set k e')
  | [], k, e, e', off, v, h, _, _ => by simp at h
  | a :: L, 0, e, e', off, v, h, he, ho => by
    have h : a = e := by simpa using h
    subst h
    rw [List.set_cons_zero, cellsG, cellsG, ← he, Nat.zero_mul, Nat.zero_add, List.set_append_left _ _ (by rw [elC_ok.len]; exact ho)]
  | a :: L, k + 1, e, e', off, v, h, he, ho => by
    have h : L[k]? = some e := by simpa using h
    rw [List.set_cons_succ, cellsG, cellsG, ← el_set L k e e' off v h he ho, List.set_append_right _ _ (by rw [elC_ok.len]; omega), elC_ok.len, show (k + 1) * 29 + off - 29 = k * 29 + off by omega]
/-- The row of them in memory. -/
structure ExR (w : World) (q : Nat) (L : List El) : Prop where
  k : Blk w q 28 (cellsG elC L).toArray
  n : L.length = 8
theorem ExR.step {w w' : World} {q : Nat} {L : List El} {S : List Nat} (h : ExR w q L) (k : Only S w w') (hq : q ∉ S) : ExR w' q L := ⟨h.k.only k hq, h.n⟩
theorem ExR.cell {w : World} {q : Nat} {L : List El} (h : ExR w q L) {k off : Nat} {e : El} {v : Value} (he : L[k]? = some e) (hv : (elC e)[off]? = some v) : w.cell? ⟨q, k * 29 + off, none⟩ = some v :=
  h.k.cell (by simpa using cellsG_at elC_ok L k e he off v hv)
theorem ExR.set {w : World} {q : Nat} {L : List El} (h : ExR w q L) {k off : Nat} {e e' : El} {v : Value} (he : L[k]? = some e) (hv : (elC e).set off v = elC e') (ho : off < 29) : ExR (w.setCell ⟨q, k * 29 + off, none⟩ v) q (L.set k e') := by
  refine ⟨?_, by rw [List.length_set, h.n]⟩
  have := h.k.set (k * 29 + off) v
  rw [List.setIfInBounds_toArray, el_set L k e e' off v he hv ho] at this
  exact this
theorem ExR.load {w : World} {q : Nat} {L : List El} (h : ExR w q L) {k : Nat} {e : El} (he : L[k]? = some e) : (Instr.loadAt 28 (.pointer (some ⟨q, k * 29, none⟩))).run Tryd.prog w = .ok (.agg (elC e).toArray) w :=
  ho_mb (fun j v hj => h.cell he hj)
set_option maxRecDepth 100000 in
theorem run_mbs8 (e0 e1 e2 e3 e4 e5 e6 e7 : El) (w : World) : (Instr.buildSlice 41 8 #[(0, .agg (elC e0).toArray), (1, .agg (elC e1).toArray), (2, .agg (elC e2).toArray), (3, .agg (elC e3).toArray), (4, .agg (elC e4).toArray), (5, .agg (elC e5).toArray), (6, .agg (elC e6).toArray), (7, .agg (elC e7).toArray)]).run Tryd.prog w =
    .ok (.slice (some ⟨w.heap.size, 0, none⟩) 8 8) (w.alloc (.cells (cellsG elC [e0, e1, e2, e3, e4, e5, e6, e7]).toArray 28)) := by kernel_rfl
/-- One number of one of them is another one. -/
theorem el_qp (y : MV) (r v b : SlV) (n : Int) : (elC (y, r, v, b)).set 26 (.int .i64 n) = elC ({ y with qp := n }, r, v, b) := rfl
theorem el_mode (y : MV) (r v b : SlV) (n : Int) : (elC (y, r, v, b)).set 1 (.int .u8 n) = elC ({ y with mode := n }, r, v, b) := rfl
theorem el_chroma (y : MV) (r v b : SlV) (n : Int) : (elC (y, r, v, b)).set 2 (.int .u8 n) = elC ({ y with chroma := n }, r, v, b) := rfl
theorem el_cbp (y : MV) (rv vv bv : Value) (n : Int) : (mC y rv vv bv).toArray.setIfInBounds 25 (.int .u8 n) = (mC { y with cbp := n } rv vv bv).toArray := rfl
theorem el_pr (y : MV) (r v b : SlV) (n : Int) (i : Nat) (hi : i < 16) : ∃ q : P16, (elC (y, r, v, b)).set (3 + i) (.int .u8 n) = elC ({ y with pr := q }, r, v, b) ∧ ∀ z, z ∈ q.l → z = n ∨ z ∈ y.pr.l := by
  obtain ⟨a1, a2, a3, ⟨p0, p1, p2, p3, p4, p5, p6, p7, p8, p9, pa, pb, pc, pd, pe, pf⟩, a5, a6, a7, a8, a9, a10, a11⟩ := y
  have c : i = 0 ∨ i = 1 ∨ i = 2 ∨ i = 3 ∨ i = 4 ∨ i = 5 ∨ i = 6 ∨ i = 7 ∨ i = 8 ∨ i = 9 ∨ i = 10 ∨ i = 11 ∨ i = 12 ∨ i = 13 ∨ i = 14 ∨ i = 15 := by omega
  have fin : ∀ (q : P16) (l : List Int) (k : Nat), q.l = l.set k n → ∀ z, z ∈ q.l → z = n ∨ z ∈ l := fun q l k e z hz => by
    rw [e] at hz
    rcases List.mem_or_eq_of_mem_set hz with h | h
    · exact .inr h
    · exact .inl h
  rcases c with rfl | rfl | rfl | rfl | rfl | rfl | rfl | rfl | rfl | rfl | rfl | rfl | rfl | rfl | rfl | rfl
  · exact ⟨⟨n, p1, p2, p3, p4, p5, p6, p7, p8, p9, pa, pb, pc, pd, pe, pf⟩, rfl, fin _ _ 0 rfl⟩
  · exact ⟨⟨p0, n, p2, p3, p4, p5, p6, p7, p8, p9, pa, pb, pc, pd, pe, pf⟩, rfl, fin _ _ 1 rfl⟩
  · exact ⟨⟨p0, p1, n, p3, p4, p5, p6, p7, p8, p9, pa, pb, pc, pd, pe, pf⟩, rfl, fin _ _ 2 rfl⟩
  · exact ⟨⟨p0, p1, p2, n, p4, p5, p6, p7, p8, p9, pa, pb, pc, pd, pe, pf⟩, rfl, fin _ _ 3 rfl⟩
  · exact ⟨⟨p0, p1, p2, p3, n, p5, p6, p7, p8, p9, pa, pb, pc, pd, pe, pf⟩, rfl, fin _ _ 4 rfl⟩
  · exact ⟨⟨p0, p1, p2, p3, p4, n, p6, p7, p8, p9, pa, pb, pc, pd, pe, pf⟩, rfl, fin _ _ 5 rfl⟩
  · exact ⟨⟨p0, p1, p2, p3, p4, p5, n, p7, p8, p9, pa, pb, pc, pd, pe, pf⟩, rfl, fin _ _ 6 rfl⟩
  · exact ⟨⟨p0, p1, p2, p3, p4, p5, p6, n, p8, p9, pa, pb, pc, pd, pe, pf⟩, rfl, fin _ _ 7 rfl⟩
  · exact ⟨⟨p0, p1, p2, p3, p4, p5, p6, p7, n, p9, pa, pb, pc, pd, pe, pf⟩, rfl, fin _ _ 8 rfl⟩
  · exact ⟨⟨p0, p1, p2, p3, p4, p5, p6, p7, p8, n, pa, pb, pc, pd, pe, pf⟩, rfl, fin _ _ 9 rfl⟩
  · exact ⟨⟨p0, p1, p2, p3, p4, p5, p6, p7, p8, p9, n, pb, pc, pd, pe, pf⟩, rfl, fin _ _ 10 rfl⟩
  · exact ⟨⟨p0, p1, p2, p3, p4, p5, p6, p7, p8, p9, pa, n, pc, pd, pe, pf⟩, rfl, fin _ _ 11 rfl⟩
  · exact ⟨⟨p0, p1, p2, p3, p4, p5, p6, p7, p8, p9, pa, pb, n, pd, pe, pf⟩, rfl, fin _ _ 12 rfl⟩
  · exact ⟨⟨p0, p1, p2, p3, p4, p5, p6, p7, p8, p9, pa, pb, pc, n, pe, pf⟩, rfl, fin _ _ 13 rfl⟩
  · exact ⟨⟨p0, p1, p2, p3, p4, p5, p6, p7, p8, p9, pa, pb, pc, pd, n, pf⟩, rfl, fin _ _ 14 rfl⟩
  · exact ⟨⟨p0, p1, p2, p3, p4, p5, p6, p7, p8, p9, pa, pb, pc, pd, pe, n⟩, rfl, fin _ _ 15 rfl⟩
theorem el_sb (y : MV) (r v b : SlV) (n : Int) (i : Nat) (hi : i < 4) : ∃ q : S4, (elC (y, r, v, b)).set (19 + i) (.int .u8 n) = elC ({ y with sb := q }, r, v, b) ∧ ∀ z, z ∈ q.l → z = n ∨ z ∈ y.sb.l := by
  obtain ⟨a1, a2, a3, a4, ⟨p0, p1, p2, p3⟩, a6, a7, a8, a9, a10, a11⟩ := y
  have c : i = 0 ∨ i = 1 ∨ i = 2 ∨ i = 3 := by omega
  have fin : ∀ (q : S4) (l : List Int) (k : Nat), q.l = l.set k n → ∀ z, z ∈ q.l → z = n ∨ z ∈ l := fun q l k e z hz => by
    rw [e] at hz
    rcases List.mem_or_eq_of_mem_set hz with h | h
    · exact .inr h
    · exact .inl h
  rcases c with rfl | rfl | rfl | rfl
  · exact ⟨⟨n, p1, p2, p3⟩, rfl, fin _ _ 0 rfl⟩
  · exact ⟨⟨p0, n, p2, p3⟩, rfl, fin _ _ 1 rfl⟩
  · exact ⟨⟨p0, p1, n, p3⟩, rfl, fin _ _ 2 rfl⟩
  · exact ⟨⟨p0, p1, p2, n⟩, rfl, fin _ _ 3 rfl⟩
/-- Where the last reference index, the first vector's Y and the last block's second number of rows lie. -/
theorem RAt.refC {w : World} {x : MV} {rv vv bv : Value} (h : RAt w x rv vv bv) (h0 : 0 < x.refs.length) : ∃ g c, rv = .slice (some ⟨g, 0, none⟩) x.refs.length c ∧ IntC w g (x.refs.length - 1) := by
  obtain ⟨y, hy⟩ : ∃ y, x.refs[x.refs.length - 1]? = some y := ⟨_, List.getElem?_eq_getElem (by omega)⟩
  obtain ⟨g, c, cur, e, hb, hc⟩ := h.r.blk hy
  exact ⟨g, c, e, _, cur, y, hb, hc, mb_ne.1.symm⟩
theorem RAt.vecC {w : World} {x : MV} {rv vv bv : Value} (h : RAt w x rv vv bv) (h0 : 0 < x.mvds.length) : ∃ g c, vv = .slice (some ⟨g, 0, none⟩) x.mvds.length c ∧ IntC w g 1 := by
  obtain ⟨y, hy⟩ : ∃ y, x.mvds[0]? = some y := ⟨_, List.getElem?_eq_getElem h0⟩
  obtain ⟨g, c, cur, e, hb, hc⟩ := h.v.blk vcC_ok hy
  exact ⟨g, c, e, _, cur, y.2, hb, by simpa using hc 1 (.int .i64 y.2) rfl, mb_ne.2.1.symm⟩
theorem RAt.blkC {w : World} {x : MV} {rv vv bv : Value} (h : RAt w x rv vv bv) (h0 : 0 < x.blocks.length) (h2 : ∀ l, l ∈ x.blocks → 2 ≤ l.length) : ∃ g c q m d, bv = .slice (some ⟨g, 0, none⟩) x.blocks.length c ∧ w.cell? ⟨g, x.blocks.length - 1, none⟩ = some (SlV.sl (some ⟨q, 0, none⟩, m, d)) ∧ 2 ≤ m ∧ IntC w q 1 := by
  obtain ⟨b, hb⟩ : ∃ y, x.blocks[x.blocks.length - 1]? = some y := ⟨_, List.getElem?_eq_getElem (by omega)⟩
  have b2 := h2 b (List.mem_of_getElem? hb)
  obtain ⟨vs, h1, hl, hi⟩ := h.b
  obtain ⟨v, hv⟩ : ∃ v, vs[x.blocks.length - 1]? = some v := ⟨_, List.getElem?_eq_getElem (by omega)⟩
  obtain ⟨g, c, cur, e, hB, hC⟩ := h1.blk slC_ok hv
  obtain ⟨z, hz⟩ : ∃ y, b[1]? = some y := ⟨_, List.getElem?_eq_getElem (by omega)⟩
  obtain ⟨q, d, cq, eq, bq, hq⟩ := (hi _ v b hv hb).blk hz
  refine ⟨g, c, q, b.length, d, by rw [e, hl], ?_, b2, _, cq, z, bq, hq, mb_ne.1.symm⟩
  have hc := hC 0 v.sl rfl
  rw [Nat.mul_one, Nat.add_zero, eq] at hc
  exact hB.cell hc
end Go.Proofs.YtpmmnjeomdjakaaDoor
