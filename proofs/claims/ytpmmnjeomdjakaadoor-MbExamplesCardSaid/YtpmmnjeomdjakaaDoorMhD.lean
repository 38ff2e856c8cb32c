/- MbExamples: a copy, as an element of the row. -/
import Derived.Test.YtpmmnjeomdjakaaDoorMhB
import Derived.Test.YtpmmnjeomdjakaaDoorMcD
namespace Go.Proofs.YtpmmnjeomdjakaaDoor
open Go.RowKit
set_option linter.unusedVariables false
set_option linter.unusedSimpArgs false

theorem MAt.sl {w : World} {x : MV} {rv vv bv : Value} (h : MAt w x rv vv bv) : ∃ a b c : SlV, rv = a.sl ∧ vv = b.sl ∧ bv = c.sl := by
  obtain ⟨a, k, rfl, _⟩ := h.r
  obtain ⟨b, d, rfl, _⟩ := h.v
  obtain ⟨vs, ⟨c, e, rfl, _⟩, _⟩ := h.b
  exact ⟨(a, _, k), (b, _, d), (c, _, e), rfl, rfl, rfl⟩
/-- Where numbers of a copy lie: the last reference index, the first vector's Y, the last block's second; in blocks that are new since w0. -/
structure Tgt (w0 w : World) (Y : MV) (a b c : SlV) : Prop where
  r : 0 < Y.refs.length → ∃ g k, a = (some ⟨g, 0, none⟩, Y.refs.length, k) ∧ IntC w g (Y.refs.length - 1) ∧ w0.heap.size ≤ g
  v : 0 < Y.mvds.length → ∃ g k, b = (some ⟨g, 0, none⟩, Y.mvds.length, k) ∧ IntC w g 1 ∧ w0.heap.size ≤ g
  b : 0 < Y.blocks.length → ∃ g k q m d cur, c = (some ⟨g, 0, none⟩, Y.blocks.length, k) ∧ Blk w g 24 cur ∧ cur[Y.blocks.length - 1]? = some (SlV.sl (some ⟨q, 0, none⟩, m, d)) ∧ 2 ≤ m ∧ IntC w q 1 ∧ w0.heap.size ≤ g ∧ w0.heap.size ≤ q
theorem IntC.lt {w : World} {g m : Nat} (h : IntC w g m) : g < w.heap.size := by
  obtain ⟨T, A, z, h1, _, _⟩ := h
  exact h1.lt
theorem Tgt.step {S : List Nat} {w0 w w' : World} {Y : MV} {a b c : SlV} (h : Tgt w0 w Y a b c) (k : Only S w w') (hS : ∀ g, g ∈ S → w.heap.size ≤ g) : Tgt w0 w' Y a b c := by
  have no : ∀ g, g < w.heap.size → g ∉ S := fun g hg hh => by have := hS g hh; omega
  refine ⟨fun h0 => ?_, fun h0 => ?_, fun h0 => ?_⟩
  · obtain ⟨g, k1, e, i, n⟩ := h.r h0
    exact ⟨g, k1, e, i.only k (no g i.lt), n⟩
  · obtain ⟨g, k1, e, i, n⟩ := h.v h0
    exact ⟨g, k1, e, i.only k (no g i.lt), n⟩
  · obtain ⟨g, k1, q, m, d, cur, e, hb, hc, m2, i, n1, n2⟩ := h.b h0
    exact ⟨g, k1, q, m, d, cur, e, hb.only k (no g hb.lt), hc, m2, i.only k (no q i.lt), n1, n2⟩
theorem sl_ext {a : SlV} {p : Option Addr} {n c : Nat} (h : a.sl = .slice p n c) : a = (p, n, c) := by
  obtain ⟨x, y, z⟩ := a
  obtain ⟨h1, h2, h3⟩ := Value.slice.inj h
  exact Prod.ext h1 (Prod.ext h2 h3)
theorem OwnM.tgt {w0 w w' : World} {Y : MV} {a b c : SlV} (ho : OwnM w w' Y a.sl b.sl c.sl) (h0 : w0.heap.size ≤ w.heap.size) (h2 : ∀ l, l ∈ Y.blocks → 2 ≤ l.length) : Tgt w0 w' Y a b c := by
  refine ⟨fun hl => ?_, fun hl => ?_, fun hl => ?_⟩
  · obtain ⟨g, k, e, i⟩ := ho.rat.refC hl
    exact ⟨g, k, sl_ext e, i, Nat.le_trans h0 (ho.rn g (by rw [e]; simp [ownI, Value.ownBlock]))⟩
  · obtain ⟨g, k, e, i⟩ := ho.rat.vecC hl
    exact ⟨g, k, sl_ext e, i, Nat.le_trans h0 (ho.vn g (by rw [e]; simp [ownG, Value.ownBlock]))⟩
  · obtain ⟨vs, cc, hv, hi⟩ := ho.b
    obtain ⟨l, hl1⟩ : ∃ y, Y.blocks[Y.blocks.length - 1]? = some y := ⟨_, List.getElem?_eq_getElem (by omega)⟩
    have b2 := h2 l (List.mem_of_getElem? hl1)
    obtain ⟨v, hv1⟩ : ∃ v, vs[Y.blocks.length - 1]? = some v := ⟨_, List.getElem?_eq_getElem (by omega)⟩
    obtain ⟨g, k, cur, e, hB, hC⟩ := cc.row.blk slC_ok hv1
    obtain ⟨z, hz⟩ : ∃ y, l[1]? = some y := ⟨_, List.getElem?_eq_getElem (by omega)⟩
    obtain ⟨q, d, cq, eq, bq, hq⟩ := (hi _ v l hv1 hl1).1.blk hz
    have hc := hC 0 v.sl rfl
    rw [Nat.mul_one, Nat.add_zero, eq] at hc
    exact ⟨g, k, q, l.length, d, cur, sl_ext (by rw [e, hv]), hB, hc, b2, ⟨_, cq, z, bq, hq, mb_ne.1.symm⟩, Nat.le_trans h0 (cc.new g (by rw [e]; simp [ownG, Value.ownBlock])), Nat.le_trans h0 ((hi _ v l hv1 hl1).2 q (by rw [eq]; simp [ownI, Value.ownBlock])).1⟩
/-- A copy. -/
structure CpyEl (w0 w : World) (Y : MV) (a b c : SlV) : Prop where
  r : RAt w Y a.sl b.sl c.sl
  t : Tgt w0 w Y a b c
theorem CpyEl.step {w0 w w' : World} {Y : MV} {a b c : SlV} (h : CpyEl w0 w Y a b c) (k : Only [] w w') : CpyEl w0 w' Y a b c := ⟨h.r.step k, h.t.step k (by simp)⟩
theorem copy_el (w0 : World) (Y : MV) (s1 s2 s3 : SlV) (w : World) (h0 : w0.heap.size ≤ w.heap.size) (hm : MAt w Y s1.sl s2.sl s3.sl) (hf : MFew Y) (hb : Y.blocks.length ≤ 27) (h2 : ∀ l, l ∈ Y.blocks → 2 ≤ l.length) : Calls Tryd.prog 10 #[.agg (mC Y s1.sl s2.sl s3.sl).toArray] w fun e w' => ∃ a b c : SlV, e = .returned (.agg (mC Y a.sl b.sl c.sl).toArray) ∧ CpyEl w0 w' Y a b c ∧ Only [] w w' := by
  refine (copymb_any Y _ _ _ w hm (by have := hf.r; omega) (by have := hf.v; omega) (by omega) (fun l hl => by have := hf.i l hl; omega)).mono ?_
  rintro e w' ⟨ra, va, ba, rfl, ho⟩
  obtain ⟨a, b, c, rfl, rfl, rfl⟩ := ho.at.sl
  exact ⟨a, b, c, rfl, ⟨ho.rat, ho.tgt h0 h2⟩, ho.only⟩
theorem RAt.old {S : List Nat} {w w' : World} {x : MV} {rv vv bv : Value} (h : RAt w x rv vv bv) (k : Only S w w') (hS : ∀ g, g ∈ S → w.heap.size ≤ g) : RAt w' x rv vv bv := by
  obtain ⟨vs, h1, h2, h3⟩ := h.b
  have no : ∀ {α : Type} {C : α → List Value} {n : Nat} {E : TypeId} {sv : Value} {l : List α}, RowG C n E w sv l → ∀ z, z ∈ ownG sv → z ∉ S := fun hr z hz hh => by
    have := hr.lt z hz
    have := hS z hh
    omega
  exact ⟨h.r.only k (fun g hg => no h.r.toG g ((mem_ownI _ _).1 hg)), h.v.only k (no h.v), vs, h1.only k (no h1), h2, fun j v y hv hy => (h3 j v y hv hy).only k (fun g hg => no (h3 j v y hv hy).toG g ((mem_ownI _ _).1 hg))⟩
theorem CpyEl.old {S : List Nat} {w0 w w' : World} {Y : MV} {a b c : SlV} (h : CpyEl w0 w Y a b c) (k : Only S w w') (hS : ∀ g, g ∈ S → w.heap.size ≤ g) : CpyEl w0 w' Y a b c := ⟨h.r.old k hS, h.t.step k hS⟩
/-- A number is another one: the targets stay. -/
theorem Tgt.poke {w0 w : World} {Y : MV} {a b c : SlV} (h : Tgt w0 w Y a b c) {g m : Nat} (hi : IntC w g m) (x : Int) : Tgt w0 (w.setCell ⟨g, m, none⟩ (.int .i64 x)) Y a b c := by
  refine ⟨fun h0 => ?_, fun h0 => ?_, fun h0 => ?_⟩
  · obtain ⟨g', k1, e, i, n⟩ := h.r h0
    exact ⟨g', k1, e, i.poke _ _ _, n⟩
  · obtain ⟨g', k1, e, i, n⟩ := h.v h0
    exact ⟨g', k1, e, i.poke _ _ _, n⟩
  · obtain ⟨g', k1, q, m', d, cur, e, hb, hc, m2, i, n1, n2⟩ := h.b h0
    by_cases hg : g = g'
    · subst hg
      refine ⟨g, k1, q, m', d, _, e, hb.set m (.int .i64 x), ?_, m2, i.poke _ _ _, n1, n2⟩
      by_cases hm : m = Y.blocks.length - 1
      · exfalso
        obtain ⟨T, A, z, hA, hz, _⟩ := hi
        have q1 := (show w.heap[g]? = _ from hA).symm.trans (show w.heap[g]? = _ from hb)
        simp at q1
        obtain ⟨rfl, _⟩ := q1
        rw [hm, hc] at hz
        have := Option.some.inj hz
        cases this
      · rw [Array.getElem?_setIfInBounds_ne hm]
        exact hc
    · exact ⟨g', k1, q, m', d, cur, e, hb.only ((Only.refl [g] w).setCell (.inl (by simp)) _) (by simp; exact fun e => hg e.symm), hc, m2, i.poke _ _ _, n1, n2⟩
/-- What MbExamples holds behind its first stores. -/
structure ExV (w x v : World) (be q qb i : Nat) (ev : Int) (Y : MV) (s1 s2 s3 a1 b1 c1 a2 b2 c2 a3 b3 c3 : SlV) : Prop where
  ok : ∃ L : List El, ExR v qb L ∧ ∀ e, e ∈ L → ElOk v e
  d1 : v.cell? ⟨qb, 52, none⟩ = some a1.sl
  d2 : v.cell? ⟨qb, 82, none⟩ = some b2.sl
  d3 : v.cell? ⟨qb, 114, none⟩ = some c3.sl
  m : Blk v q 28 (mC Y s1.sl s2.sl s3.sl).toArray
  e : v.cell? ⟨be, i, none⟩ = some (.int .i64 ev)
  t1 : Tgt x v Y a1 b1 c1
  t2 : Tgt x v Y a2 b2 c2
  t3 : Tgt x v Y a3 b3 c3
  o : Only [] w v
  wx : w.heap.size ≤ x.heap.size
  be : be < x.heap.size
  q : q < x.heap.size
theorem ExV.step {w x v v' : World} {be q qb i : Nat} {ev : Int} {Y : MV} {s1 s2 s3 a1 b1 c1 a2 b2 c2 a3 b3 c3 : SlV} (h : ExV w x v be q qb i ev Y s1 s2 s3 a1 b1 c1 a2 b2 c2 a3 b3 c3) (k : Only [] v v') : ExV w x v' be q qb i ev Y s1 s2 s3 a1 b1 c1 a2 b2 c2 a3 b3 c3 := by
  obtain ⟨L, h1, h2⟩ := h.ok
  exact ⟨⟨L, h1.step k (by simp), fun e he => (h2 e he).only0 k⟩, k.cell h.d1 (by simp), k.cell h.d2 (by simp), k.cell h.d3 (by simp), h.m.only k (by simp), k.cell h.e (by simp), h.t1.step k (by simp), h.t2.step k (by simp), h.t3.step k (by simp), h.o.trans k, h.wx, h.be, h.q⟩
theorem ExV.poke {w x v : World} {be q qb i : Nat} {ev : Int} {Y : MV} {s1 s2 s3 a1 b1 c1 a2 b2 c2 a3 b3 c3 : SlV} (h : ExV w x v be q qb i ev Y s1 s2 s3 a1 b1 c1 a2 b2 c2 a3 b3 c3) {g m : Nat} (hi : IntC v g m) (hx : x.heap.size ≤ g) (n : Int) : ExV w x (v.setCell ⟨g, m, none⟩ (.int .i64 n)) be q qb i ev Y s1 s2 s3 a1 b1 c1 a2 b2 c2 a3 b3 c3 := by
  obtain ⟨L, h1, h2⟩ := h.ok
  have hq : g ≠ qb := fun e => by
    obtain ⟨T, A, z, h3, _, h4⟩ := hi
    have h5 := h1.k
    rw [← e] at h5
    have h6 := (show v.heap[g]? = _ from h3).symm.trans (show v.heap[g]? = _ from h5)
    simp at h6
    exact h4 h6.2
  obtain ⟨z, hz⟩ := hi.cell
  obtain ⟨L', p1, p2, p3⟩ := poke_all hz n L h2
  have k : Only [g] v (v.setCell ⟨g, m, none⟩ (.int .i64 n)) := (Only.refl _ _).setCell (.inl (by simp)) _
  have := h.be
  have := h.q
  have := h.wx
  refine ⟨⟨L', ⟨?_, by rw [p3]; exact h1.n⟩, p1⟩, k.cell h.d1 (by simp; exact fun e => hq e.symm), k.cell h.d2 (by simp; exact fun e => hq e.symm), k.cell h.d3 (by simp; exact fun e => hq e.symm), h.m.only k (by simp; omega), k.cell h.e (by simp; omega), h.t1.poke hi n, h.t2.poke hi n, h.t3.poke hi n, h.o.trans2 k (fun y hy => .inr (by simp at hy; omega)), h.wx, h.be, h.q⟩
  have := h1.k.only k (by simp; exact fun e => hq e.symm)
  rw [← p2] at this
  exact this
theorem ExV.ne {w x v : World} {be q qb i : Nat} {ev : Int} {Y : MV} {s1 s2 s3 a1 b1 c1 a2 b2 c2 a3 b3 c3 : SlV} (h : ExV w x v be q qb i ev Y s1 s2 s3 a1 b1 c1 a2 b2 c2 a3 b3 c3) {g m : Nat} (hi : IntC v g m) (hx : x.heap.size ≤ g) : qb ≠ g ∧ q ≠ g ∧ be ≠ g := by
  obtain ⟨L, h1, _⟩ := h.ok
  have := h.be
  have := h.q
  refine ⟨fun e => ?_, by omega, by omega⟩
  obtain ⟨T, A, z, h3, _, h4⟩ := hi
  have h5 := h1.k
  rw [e] at h5
  have h6 := (show v.heap[g]? = _ from h3).symm.trans (show v.heap[g]? = _ from h5)
  simp at h6
  exact h4 h6.2
theorem tmod_nat (i m : Nat) : Int.tmod (i : Int) (m : Int) = ((i % m : Nat) : Int) := by
  rw [Int.tmod_eq_emod_of_nonneg (by omega)]
  rfl
end Go.Proofs.YtpmmnjeomdjakaaDoor
