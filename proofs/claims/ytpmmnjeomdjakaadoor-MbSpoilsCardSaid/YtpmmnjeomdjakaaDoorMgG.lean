/- One cell of a plain macroblock's rows is another one. -/
import Derived.Test.YtpmmnjeomdjakaaDoorMgD
import Derived.Test.YtpmmnjeomdjakaaDoorMgF
namespace Go.Proofs.YtpmmnjeomdjakaaDoor
open Go.RowKit
set_option linter.unusedVariables false
set_option linter.unusedSimpArgs false

theorem RowG.setAt {α : Type} {C : α → List Value} {n : Nat} {E : TypeId} {w : World} {g k c : Nat} {l l' : List α} (h : RowG C n E w (.slice (some ⟨g, 0, none⟩) k c) l) (m : Nat) (v : Value) (hl : l'.length = l.length) (hc : cellsG C l' = (cellsG C l).set m v) :
    RowG C n E (w.setCell ⟨g, m, none⟩ v) (.slice (some ⟨g, 0, none⟩) k c) l' := by
  obtain ⟨h0, h1⟩ := h
  refine ⟨by rw [hc, List.length_set, hl]; exact h0, ?_⟩
  rcases h1 with ⟨e, _⟩ | ⟨g', cap, cur, e, hb, hh, h1, h2, h3, h4⟩
  · cases e
  · cases e
    obtain ⟨hlt, hk⟩ := Array.getElem?_eq_some_iff.1 hh
    refine .inr ⟨g, c, cur.setIfInBounds m v, by rw [hl], hb, ?_, by rw [hl]; exact h1, h2, by simpa using h3, ?_⟩
    · show (w.heap.modify g _)[g]? = _
      rw [Array.getElem?_eq_getElem (by rw [Array.size_modify]; exact hlt), Array.getElem_modify_self, hk]
      rfl
    · rw [hc, hl, Array.toList_setIfInBounds, ← h4, List.take_set]
theorem cells_vec : ∀ (l : List (Int × Int)) (i : Nat) (p : Int × Int) (x : Int), l[i]? = some p → cellsG vcC (l.set i (x, p.2)) = (cellsG vcC l).set (i * 2) (.int .i64 x)
  | [], i, p, x, h => by simp at h
  | q :: l, 0, p, x, h => by simp at h; subst h; rfl
  | q :: l, i + 1, p, x, h => by
    simp at h
    rw [List.set_cons_succ, cellsG, cellsG, cells_vec l i p x h, show (i + 1) * 2 = i * 2 + 1 + 1 by omega]
    rfl
theorem own_form {sv : Value} {g n c : Nat} (h : sv = .slice (some ⟨g, 0, none⟩) n c) : ownG sv = [g] := by rw [h]; rfl
section
variable {w0 w w' : World} {px pm pn pw : Nat} {wh ix tn n e : Int} {y : MV} {rv vv bv : Value} {us : List SlV} {lo hi : Nat}
/-- A reference index is another one. -/
theorem SpS.refs {g k c : Nat} (h : SpS w0 w px pm pn pw wh ix tn n e y (.slice (some ⟨g, 0, none⟩) k c) vv bv us lo hi) (i : Nat) (x : Int) (hi' : i < y.refs.length) : SpS w0 (w.setCell ⟨g, i, none⟩ (.int .i64 x)) px pm pn pw wh ix tn n e { y with refs := y.refs.set i x } (.slice (some ⟨g, 0, none⟩) k c) vv bv us lo hi := by
  have k1 : Only [g] w (w.setCell ⟨g, i, none⟩ (.int .i64 x)) := (Only.refl _ _).setCell (.inl (by simp)) _
  have b := h.pr.rb g (by simp [ownG, Value.ownBlock])
  have := h.xl; have := h.xm; have := h.xn; have := h.xw; have := h.x0
  have d := h.pr.rv
  have gm : g ∈ ownG (.slice (some ⟨g, 0, none⟩) k c) := by simp [ownG, Value.ownBlock]
  refine ⟨h.bx.only k1 (by simp; omega), h.bm.only k1 (by simp; omega), h.bn.only k1 (by simp; omega), h.bw.only k1 (by simp; omega), ⟨(h.pr.r.set i hi' x).2.2, h.pr.v.only k1 (fun q hq hh => ?_), h.pr.b.only k1 (fun q hq hh => ?_), h.pr.bl, fun j v z hv hz => (h.pr.i j v z hv hz).only k1 (fun q hq hh => ?_), h.pr.rb, h.pr.vb, h.pr.bb, h.pr.ib, h.pr.ri, h.pr.ii⟩, h.o.trans2 k1 (fun q hq => .inr (by simp at hq; omega)), h.x0, h.xl, h.lh, h.xm, h.xn, h.xw, h.mn, h.mw, h.nw⟩
  · simp at hh; subst hh; exact d.1 q gm hq
  · simp at hh; subst hh; exact d.2.1 q gm hq
  · simp at hh; subst hh; exact h.pr.ri j v hv q gm ((mem_ownI _ _).1 hq)
/-- A vector is another one. -/
theorem SpS.vec {g k c : Nat} (h : SpS w0 w px pm pn pw wh ix tn n e y rv (.slice (some ⟨g, 0, none⟩) k c) bv us lo hi) (i : Nat) (x : Int) (p : Int × Int) (hi' : y.mvds[i]? = some p) : SpS w0 (w.setCell ⟨g, i * 2, none⟩ (.int .i64 x)) px pm pn pw wh ix tn n e { y with mvds := y.mvds.set i (x, p.2) } rv (.slice (some ⟨g, 0, none⟩) k c) bv us lo hi := by
  have k1 : Only [g] w (w.setCell ⟨g, i * 2, none⟩ (.int .i64 x)) := (Only.refl _ _).setCell (.inl (by simp)) _
  have b := h.pr.vb g (by simp [ownG, Value.ownBlock])
  have := h.xl; have := h.xm; have := h.xn; have := h.xw; have := h.x0
  have d := h.pr.rv
  have gm : g ∈ ownG (.slice (some ⟨g, 0, none⟩) k c) := by simp [ownG, Value.ownBlock]
  refine ⟨h.bx.only k1 (by simp; omega), h.bm.only k1 (by simp; omega), h.bn.only k1 (by simp; omega), h.bw.only k1 (by simp; omega), ⟨h.pr.r.only k1 (fun q hq hh => ?_), h.pr.v.setAt (i * 2) _ (by rw [List.length_set]) (cells_vec _ _ _ _ hi'), h.pr.b.only k1 (fun q hq hh => ?_), h.pr.bl, fun j v z hv hz => (h.pr.i j v z hv hz).only k1 (fun q hq hh => ?_), h.pr.rb, h.pr.vb, h.pr.bb, h.pr.ib, h.pr.ri, h.pr.ii⟩, h.o.trans2 k1 (fun q hq => .inr (by simp at hq; omega)), h.x0, h.xl, h.lh, h.xm, h.xn, h.xw, h.mn, h.mw, h.nw⟩
  · simp at hh; subst hh; exact d.1 q ((mem_ownI _ _).1 hq) gm
  · simp at hh; subst hh; exact d.2.2.1 q gm hq
  · simp at hh; subst hh; exact (d.2.2.2 j v hv q ((mem_ownI _ _).1 hq)).1 gm
/-- A coefficient is another one. -/
theorem SpS.coef {g k c : Nat} (h : SpS w0 w px pm pn pw wh ix tn n e y rv vv bv us lo hi) (a : Nat) (b : List Int) (i : Nat) (x : Int) (hu : us[a]? = some (some ⟨g, 0, none⟩, k, c)) (hb : y.blocks[a]? = some b) (hi' : i < b.length) :
    SpS w0 (w.setCell ⟨g, i, none⟩ (.int .i64 x)) px pm pn pw wh ix tn n e { y with blocks := y.blocks.set a (b.set i x) } rv vv bv us lo hi := by
  have k1 : Only [g] w (w.setCell ⟨g, i, none⟩ (.int .i64 x)) := (Only.refl _ _).setCell (.inl (by simp)) _
  have gm : g ∈ ownG (SlV.sl (some ⟨g, 0, none⟩, k, c)) := by simp [ownG, Value.ownBlock, SlV.sl]
  have bd := h.pr.ib a _ hu g gm
  have := h.xl; have := h.xm; have := h.xn; have := h.xw; have := h.x0
  have d := h.pr.rv
  refine ⟨h.bx.only k1 (by simp; omega), h.bm.only k1 (by simp; omega), h.bn.only k1 (by simp; omega), h.bw.only k1 (by simp; omega), ⟨h.pr.r.only k1 (fun q hq hh => ?_), h.pr.v.only k1 (fun q hq hh => ?_), h.pr.b.only k1 (fun q hq hh => ?_), by show us.length = (y.blocks.set a (b.set i x)).length; rw [List.length_set]; exact h.pr.bl, fun j v z hv hz => ?_, h.pr.rb, h.pr.vb, h.pr.bb, h.pr.ib, h.pr.ri, h.pr.ii⟩, h.o.trans2 k1 (fun q hq => .inr (by simp at hq; omega)), h.x0, h.xl, h.lh, h.xm, h.xn, h.xw, h.mn, h.mw, h.nw⟩
  · simp at hh; subst hh; exact h.pr.ri a _ hu q ((mem_ownI _ _).1 hq) gm
  · simp at hh; subst hh; exact (d.2.2.2 a _ hu q gm).1 hq
  · simp at hh; subst hh; exact (d.2.2.2 a _ hu q gm).2 hq
  · by_cases hj : j = a
    · subst hj
      rw [hu] at hv
      obtain rfl := Option.some.inj hv
      have hz' : (y.blocks.set j (b.set i x))[j]? = some z := hz
      rw [List.getElem?_set_self (List.getElem?_eq_some_iff.1 hb).1] at hz'
      obtain rfl := Option.some.inj hz'
      exact ((h.pr.i j _ b hu hb).set i hi' x).2.2
    · have hz' : (y.blocks.set a (b.set i x))[j]? = some z := hz
      rw [List.getElem?_set_ne (fun e => hj e.symm)] at hz'
      refine (h.pr.i j v z hv hz').only k1 (fun q hq hh => ?_)
      simp at hh; subst hh
      exact h.pr.ii j a v _ hj hv hu q ((mem_ownI _ _).1 hq) gm
end
/-- A number of Preds is another one. -/
theorem pr_set (x : MV) (rv vv bv : Value) (hz : x.pr = .zero) (i : Nat) (hi : i < 16) (m : Int) : ∃ q : P16, q.l = P16.zero.l.set i m ∧ (mC x rv vv bv).toArray.setIfInBounds (3 + i) (.int .u8 m) = (mC { x with pr := q } rv vv bv).toArray := by
  obtain ⟨a1, a2, a3, a4, a5, a6, a7, a8, a9, a10, a11⟩ := x
  simp only at hz
  subst hz
  have c : i = 0 ∨ i = 1 ∨ i = 2 ∨ i = 3 ∨ i = 4 ∨ i = 5 ∨ i = 6 ∨ i = 7 ∨ i = 8 ∨ i = 9 ∨ i = 10 ∨ i = 11 ∨ i = 12 ∨ i = 13 ∨ i = 14 ∨ i = 15 := by omega
  rcases c with rfl | rfl | rfl | rfl | rfl | rfl | rfl | rfl | rfl | rfl | rfl | rfl | rfl | rfl | rfl | rfl
  · exact ⟨⟨m, 0, 0, 0, 0, 0, 0, 0, 0, 0, 0, 0, 0, 0, 0, 0⟩, rfl, rfl⟩
  · exact ⟨⟨0, m, 0, 0, 0, 0, 0, 0, 0, 0, 0, 0, 0, 0, 0, 0⟩, rfl, rfl⟩
  · exact ⟨⟨0, 0, m, 0, 0, 0, 0, 0, 0, 0, 0, 0, 0, 0, 0, 0⟩, rfl, rfl⟩
  · exact ⟨⟨0, 0, 0, m, 0, 0, 0, 0, 0, 0, 0, 0, 0, 0, 0, 0⟩, rfl, rfl⟩
  · exact ⟨⟨0, 0, 0, 0, m, 0, 0, 0, 0, 0, 0, 0, 0, 0, 0, 0⟩, rfl, rfl⟩
  · exact ⟨⟨0, 0, 0, 0, 0, m, 0, 0, 0, 0, 0, 0, 0, 0, 0, 0⟩, rfl, rfl⟩
  · exact ⟨⟨0, 0, 0, 0, 0, 0, m, 0, 0, 0, 0, 0, 0, 0, 0, 0⟩, rfl, rfl⟩
  · exact ⟨⟨0, 0, 0, 0, 0, 0, 0, m, 0, 0, 0, 0, 0, 0, 0, 0⟩, rfl, rfl⟩
  · exact ⟨⟨0, 0, 0, 0, 0, 0, 0, 0, m, 0, 0, 0, 0, 0, 0, 0⟩, rfl, rfl⟩
  · exact ⟨⟨0, 0, 0, 0, 0, 0, 0, 0, 0, m, 0, 0, 0, 0, 0, 0⟩, rfl, rfl⟩
  · exact ⟨⟨0, 0, 0, 0, 0, 0, 0, 0, 0, 0, m, 0, 0, 0, 0, 0⟩, rfl, rfl⟩
  · exact ⟨⟨0, 0, 0, 0, 0, 0, 0, 0, 0, 0, 0, m, 0, 0, 0, 0⟩, rfl, rfl⟩
  · exact ⟨⟨0, 0, 0, 0, 0, 0, 0, 0, 0, 0, 0, 0, m, 0, 0, 0⟩, rfl, rfl⟩
  · exact ⟨⟨0, 0, 0, 0, 0, 0, 0, 0, 0, 0, 0, 0, 0, m, 0, 0⟩, rfl, rfl⟩
  · exact ⟨⟨0, 0, 0, 0, 0, 0, 0, 0, 0, 0, 0, 0, 0, 0, m, 0⟩, rfl, rfl⟩
  · exact ⟨⟨0, 0, 0, 0, 0, 0, 0, 0, 0, 0, 0, 0, 0, 0, 0, m⟩, rfl, rfl⟩
end Go.Proofs.YtpmmnjeomdjakaaDoor
