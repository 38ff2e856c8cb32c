/- A number in memory is another one: the lists of a macroblock that may run through it stay lists of the same lengths. -/
import Derived.Test.YtpmmnjeomdjakaaDoorMgO
namespace Go.Proofs.YtpmmnjeomdjakaaDoor
open Go.RowKit
set_option linter.unusedVariables false
set_option linter.unusedSimpArgs false

theorem cell_same {w : World} {p : Addr} {u v : Value} (h : w.cell? p = some u) : (w.setCell p v).cell? p = some v := World.cell?_setCell_same (h := h) ..
theorem cell_other {w : World} {p q : Addr} {v : Value} (h : p ≠ q) : (w.setCell p v).cell? q = w.cell? q := World.cell?_setCell_other (h := h) ..
section
variable {w : World} {g m : Nat} {z x : Int}
theorem poke_int {sv : Value} {l : List Int} (h : HoldsI .i64 w sv l) (hc : w.cell? ⟨g, m, none⟩ = some (.int .i64 z)) : ∃ l', HoldsI .i64 (w.setCell ⟨g, m, none⟩ (.int .i64 x)) sv l' ∧ l'.length = l.length := by
  obtain ⟨a, c, rfl, h1, h2, h3⟩ := h
  rcases h3 with rfl | ⟨b, o, rfl, hcell⟩
  · exact ⟨[], ⟨a, c, rfl, h1, h2, .inl rfl⟩, rfl⟩
  · by_cases hin : b = g ∧ o ≤ m ∧ m - o < l.length
    · obtain ⟨rfl, ho, hl⟩ := hin
      refine ⟨l.set (m - o) x, ⟨some ⟨b, o, none⟩, c, by rw [List.length_set], by rw [List.length_set]; exact h1, h2, .inr ⟨b, o, rfl, fun j y hj => ?_⟩⟩, List.length_set⟩
      by_cases hjm : j = m - o
      · subst hjm
        rw [List.getElem?_set_self hl] at hj
        obtain rfl := Option.some.inj hj
        rw [show o + (m - o) = m by omega]
        exact cell_same hc
      · rw [List.getElem?_set_ne (fun e => hjm e.symm)] at hj
        rw [cell_other (by simp only [ne_eq, Addr.mk.injEq]; omega)]
        exact hcell j y hj
    · refine ⟨l, ⟨some ⟨b, o, none⟩, c, rfl, h1, h2, .inr ⟨b, o, rfl, fun j y hj => ?_⟩⟩, rfl⟩
      have hjl := (List.getElem?_eq_some_iff.1 hj).1
      rw [cell_other (by
        intro e
        simp only [Addr.mk.injEq] at e
        exact hin ⟨e.1.symm, by omega, by omega⟩)]
      exact hcell j y hj
theorem poke_vec {sv : Value} {l : List (Int × Int)} (h : HoldsG vcC 2 w sv l) (hc : w.cell? ⟨g, m, none⟩ = some (.int .i64 z)) : ∃ l', HoldsG vcC 2 (w.setCell ⟨g, m, none⟩ (.int .i64 x)) sv l' ∧ l'.length = l.length := by
  obtain ⟨a, c, rfl, h1, h2, h3⟩ := h
  rcases h3 with rfl | ⟨b, o, rfl, hcell⟩
  · exact ⟨[], ⟨a, c, rfl, h1, h2, .inl rfl⟩, rfl⟩
  · refine ⟨l.mapIdx fun j p => (if b = g ∧ o + j * 2 = m then x else p.1, if b = g ∧ o + j * 2 + 1 = m then x else p.2), ⟨some ⟨b, o, none⟩, c, by rw [List.length_mapIdx], by rw [List.length_mapIdx]; exact h1, h2, .inr ⟨b, o, rfl, fun j y hj => ?_⟩⟩, List.length_mapIdx⟩
    rw [List.getElem?_mapIdx] at hj
    obtain ⟨p, hp, rfl⟩ := Option.map_eq_some_iff.1 hj
    intro i v hv
    match i, hv with
    | 0, hv =>
      have old := hcell j p hp 0 (.int .i64 p.1) rfl
      rw [Nat.add_zero] at old ⊢
      obtain rfl : Value.int .i64 (if b = g ∧ o + j * 2 = m then x else p.1) = v := by simpa [vcC] using hv
      by_cases hin : b = g ∧ o + j * 2 = m
      · rw [if_pos hin]
        obtain ⟨rfl, rfl⟩ := hin
        exact cell_same hc
      · rw [if_neg hin, cell_other (by
          intro e
          simp only [Addr.mk.injEq] at e
          exact hin ⟨e.1.symm, e.2.1.symm⟩)]
        exact old
    | 1, hv =>
      have old := hcell j p hp 1 (.int .i64 p.2) rfl
      obtain rfl : Value.int .i64 (if b = g ∧ o + j * 2 + 1 = m then x else p.2) = v := by simpa [vcC] using hv
      by_cases hin : b = g ∧ o + j * 2 + 1 = m
      · rw [if_pos hin]
        obtain ⟨rfl, rfl⟩ := hin
        exact cell_same hc
      · rw [if_neg hin, cell_other (by
          intro e
          simp only [Addr.mk.injEq] at e
          exact hin ⟨e.1.symm, e.2.1.symm⟩)]
        exact old
    | k + 2, hv => simp [vcC] at hv
/-- A slice in memory is where it was. -/
theorem poke_slice {p : Addr} {v : SlV} (h : w.cell? p = some v.sl) (hc : w.cell? ⟨g, m, none⟩ = some (.int .i64 z)) : (w.setCell ⟨g, m, none⟩ (.int .i64 x)).cell? p = some v.sl := by
  rw [cell_other (by
    intro e
    rw [← e, hc] at h
    have := Option.some.inj h
    cases this)]
  exact h
theorem poke_blks {sv : Value} {bs : List (List Int)} (h : HoldsB w sv bs) (hc : w.cell? ⟨g, m, none⟩ = some (.int .i64 z)) : ∃ bs', HoldsB (w.setCell ⟨g, m, none⟩ (.int .i64 x)) sv bs' ∧ bs'.length = bs.length ∧ ∀ y', y' ∈ bs' → ∃ y, y ∈ bs ∧ y'.length = y.length := by
  obtain ⟨vs, ⟨a, c, rfl, h1, h2, h3⟩, hl, hi⟩ := h
  have ex : ∀ j : Nat, ∃ l' : List Int, ∀ v y, vs[j]? = some v → bs[j]? = some y → HoldsI .i64 (w.setCell ⟨g, m, none⟩ (.int .i64 x)) v.sl l' ∧ l'.length = y.length := fun j => by
    by_cases hj : j < bs.length
    · have hv : vs[j]? = some vs[j] := List.getElem?_eq_getElem (by omega)
      have hy : bs[j]? = some bs[j] := List.getElem?_eq_getElem hj
      obtain ⟨l', q1, q2⟩ := poke_int (x := x) (hi j _ _ hv hy) hc
      refine ⟨l', fun v y hv' hy' => ?_⟩
      rw [hv] at hv'
      rw [hy] at hy'
      obtain rfl := Option.some.inj hv'
      obtain rfl := Option.some.inj hy'
      exact ⟨q1, q2⟩
    · exact ⟨[], fun v y _ hy => absurd (List.getElem?_eq_some_iff.1 hy).1 hj⟩
  obtain ⟨f, hf⟩ := Classical.axiomOfChoice ex
  refine ⟨(List.range bs.length).map f, ⟨vs, ⟨a, c, rfl, h1, h2, ?_⟩, by simp [hl], fun j v y hv hy => ?_⟩, by simp, fun y' hy' => ?_⟩
  · rcases h3 with h3 | ⟨b, o, rfl, hcell⟩
    · exact .inl h3
    · refine .inr ⟨b, o, rfl, fun j v hj i u hu => ?_⟩
      have old := hcell j v hj i u hu
      match i, hu with
      | 0, hu =>
        obtain rfl : v.sl = u := by simpa [slC] using hu
        exact poke_slice old hc
      | k + 1, hu => simp [slC] at hu
  · have hj : j < bs.length := by
      have := (List.getElem?_eq_some_iff.1 hy).1
      simpa using this
    rw [List.getElem?_map, List.getElem?_range hj, Option.map_some] at hy
    obtain rfl := Option.some.inj hy
    exact (hf j v bs[j] hv (List.getElem?_eq_getElem hj)).1
  · obtain ⟨j, hj, rfl⟩ := List.mem_map.1 hy'
    have hj := List.mem_range.1 hj
    exact ⟨bs[j], List.getElem_mem hj, (hf j (vs[j]'(by omega)) bs[j] (List.getElem?_eq_getElem (by omega)) (List.getElem?_eq_getElem hj)).2⟩
/-- Fields that are not lists are the same; its lists are as long. -/
def SameButLists (x y : MV) : Prop := ∃ r v b, y = { x with refs := r, mvds := v, blocks := b } ∧ ∀ l', l' ∈ b → ∃ l, l ∈ x.blocks ∧ l'.length = l.length
theorem MAt.poke {y : MV} {rv vv bv : Value} (h : MAt w y rv vv bv) (hc : w.cell? ⟨g, m, none⟩ = some (.int .i64 z)) : ∃ y', MAt (w.setCell ⟨g, m, none⟩ (.int .i64 x)) y' rv vv bv ∧ SameButLists y y' := by
  obtain ⟨r, r1, r2⟩ := poke_int (x := x) h.r hc
  obtain ⟨v, v1, v2⟩ := poke_vec (x := x) h.v hc
  obtain ⟨b, b1, b2, b3⟩ := poke_blks (x := x) h.b hc
  exact ⟨{ y with refs := r, mvds := v, blocks := b }, ⟨r1, v1, b1⟩, r, v, b, rfl, b3⟩
theorem SameButLists.in_ {x y : MV} (h : SameButLists x y) (hx : MIn x) : MIn y := by
  obtain ⟨r, v, b, rfl, _⟩ := h
  exact ⟨hx.k0, hx.k1, hx.m0, hx.m1, hx.h0, hx.h1, hx.p, hx.s, hx.c0, hx.c1, hx.q0, hx.q1⟩
theorem SameButLists.cells {x y : MV} (h : SameButLists x y) (rv vv bv : Value) : mC y rv vv bv = mC x rv vv bv := by
  obtain ⟨r, v, b, rfl, _⟩ := h
  rfl
/-- A cell that holds a number. -/
def IntC (w : World) (g m : Nat) : Prop := ∃ (T : TypeId) (A : Array Value) (z : Int), Blk w g T A ∧ A[m]? = some (.int .i64 z) ∧ T ≠ 28
theorem IntC.cell (h : IntC w g m) : ∃ z, w.cell? ⟨g, m, none⟩ = some (.int .i64 z) := by
  obtain ⟨T, A, z, h1, h2, h3⟩ := h
  exact ⟨z, h1.cell h2⟩
theorem IntC.frozen (h : IntC w g m) : w.frozen? ⟨g, m, none⟩ = false := by
  obtain ⟨T, A, z, h1, h2, h3⟩ := h
  exact h1.frozen m
theorem IntC.only {S : List Nat} {w' : World} (h : IntC w g m) (k : Only S w w') (hS : g ∉ S) : IntC w' g m := by
  obtain ⟨T, A, z, h1, h2, h3⟩ := h
  exact ⟨T, A, z, h1.only k hS, h2, h3⟩
theorem IntC.poke (h : IntC w g m) (a b : Nat) (x : Int) : IntC (w.setCell ⟨a, b, none⟩ (.int .i64 x)) g m := by
  obtain ⟨T, A, z, h1, h2, h3⟩ := h
  by_cases hg : a = g
  · subst hg
    refine ⟨T, _, if b = m then x else z, h1.set b (.int .i64 x), ?_, h3⟩
    by_cases hb : b = m
    · subst hb
      rw [if_pos rfl, Array.getElem?_setIfInBounds_self_of_lt (Array.getElem?_eq_some_iff.1 h2).1]
    · rw [if_neg hb, Array.getElem?_setIfInBounds_ne hb]
      exact h2
  · exact ⟨T, A, z, h1.only ((Only.refl [a] w).setCell (.inl (by simp)) _) (by simp; exact fun e => hg e.symm), h2, h3⟩
end
end Go.Proofs.YtpmmnjeomdjakaaDoor
