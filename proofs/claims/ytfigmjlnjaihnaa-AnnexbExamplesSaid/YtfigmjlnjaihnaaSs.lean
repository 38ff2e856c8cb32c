/- Slices of strings that a call collects. -/
import Derived.Test.YtfigmjlnjaihnaaBs
import Derived.Maps.AppendAt
namespace Go.Proofs.Ytfigmjlnjaihnaa
open Go.RowKit
set_option linter.unusedVariables false

theorem info_str : (Try.prog.info? 9).map (fun i => (i.zero, i.size, i.bytes)) = some (some (.string ⟨#[]⟩), 1, 16) := by kernel_rfl
theorem und_strs : Try.prog.underlying 23 = some (.slice 9) := by kernel_rfl
/-- sv is a slice of the strings ss, which nobody else holds. -/
def RowS (w : World) (sv : Value) (ss : List ByteArray) : Prop := w.ownsRow 0 9 1 sv ss.length (ss.map .string)
theorem RowS.lt {w : World} {sv : Value} {ss : List ByteArray} (h : RowS w sv ss) : ∀ g, g ∈ ownOf sv → g < w.heap.size := by
  intro g hg
  rcases h.2 with ⟨rfl, _⟩ | ⟨g', cap, cur, rfl, _, hh, _⟩
  · simp [ownOf, Value.ownBlock] at hg
  · simp [ownOf, Value.ownBlock] at hg
    subst hg
    exact (Array.getElem?_eq_some_iff.1 hh).1
theorem RowS.only {S : List Nat} {w w' : World} {sv : Value} {ss : List ByteArray} (h : RowS w sv ss) (k : Only S w w') (hd : ∀ g, g ∈ ownOf sv → g ∉ S) : RowS w' sv ss := by
  refine ⟨h.1, ?_⟩
  rcases h.2 with ⟨rfl, h0⟩ | ⟨g', cap, cur, rfl, hb, hh, r⟩
  · exact .inl ⟨rfl, h0⟩
  · exact .inr ⟨g', cap, cur, rfl, hb, by rw [k.block g' (Array.getElem?_eq_some_iff.1 hh).1 (hd g' (by simp [ownOf, Value.ownBlock]))]; exact hh, r⟩
theorem RowS.form {w : World} {sv : Value} {ss : List ByteArray} (h : RowS w sv ss) : ∃ a c, sv = .slice a ss.length c ∧ ss.length ≤ c := by
  rcases h.2 with ⟨rfl, h0⟩ | ⟨g, cap, cur, rfl, _, _, h1, _⟩
  · exact ⟨none, 0, by rw [h0], by omega⟩
  · exact ⟨_, _, rfl, h1⟩
/-- sv, of the strings ss, may be read at w: whoever holds it. -/
def Holds (w : World) (sv : Value) (ss : List ByteArray) : Prop := ∃ a c, sv = .slice a ss.length c ∧ ∀ (j : Nat) (x : ByteArray), ss[j]? = some x → ∃ ad, a = some ad ∧ w.cell? (ad.add j) = some (.string x)
theorem RowS.holds {w : World} {sv : Value} {ss : List ByteArray} (h : RowS w sv ss) : Holds w sv ss := by
  rcases h.2 with ⟨rfl, h0⟩ | ⟨g, cap, cur, rfl, hb, hh, h1, h2, h3, h4⟩
  · refine ⟨none, 0, by rw [h0], fun j x hj => ?_⟩
    have := (List.getElem?_eq_some_iff.1 hj).1
    omega
  · refine ⟨_, _, rfl, fun j x hj => ⟨_, rfl, World.ownsRow.cells (g := g) h rfl j _ (by simp [hj])⟩⟩
theorem Holds.only {S : List Nat} {w w' : World} {sv : Value} {ss : List ByteArray} (h : Holds w sv ss) (k : Only S w w') (hd : ∀ a n c, sv = .slice (some a) n c → a.block ∉ S) : Holds w' sv ss := by
  obtain ⟨a, c, rfl, hc⟩ := h
  refine ⟨a, c, rfl, fun j x hj => ?_⟩
  obtain ⟨ad, rfl, hx⟩ := hc j x hj
  refine ⟨ad, rfl, ?_⟩
  refine k.cell hx ?_
  rw [show (ad.add j).block = ad.block from by cases j <;> rfl]
  exact hd ad _ c rfl

theorem run_append_strs (w : World) (ty : TypeId) (sv : Value) (ss : List ByteArray) (hr : RowS w sv ss) (ad : Addr) (c : Nat) (cs : List ByteArray)
    (hcs : ∀ j v, (cs.map Value.string)[j]? = some v → w.cell? (ad.add j) = some v) (hbig : ss.length + cs.length ≤ 1000000000) :
    ∃ sv' w', (Builtin.append_ #[23, 23] ty #[sv, .slice (some ad) cs.length c]).run Try.prog w = .ok sv' w' ∧ RowS w' sv' (ss ++ cs) ∧ Only (ownOf sv) w w' ∧ (∀ g, g ∈ ownOf sv' → g ∈ ownOf sv ∨ w.heap.size ≤ g) := by
  obtain ⟨i0, hi0, hz0, hs0, hb0⟩ := info_parts info_str
  have one : ∀ u, u ∈ cs.map Value.string → u.oneCell' = true := fun u hu => by obtain ⟨x, _, rfl⟩ := List.mem_map.1 hu; rfl
  obtain ⟨v', w', h1, h2, h3, _, h5⟩ := run_append_own_at (P := Try.prog) (w := w) 0 23 ty 9 i0 (.string ⟨#[]⟩) 1 16 und_strs hi0 hz0 hs0 hb0 rfl (by omega) sv ss.length (ss.map .string) hr ad cs.length c (cs.map .string) (by simp) hcs one (by unfold maxLen; omega) (by omega) (Nat.zero_le _)
  refine ⟨v', w', h1, by unfold RowS; rw [List.length_append, List.map_append]; exact h2, grown_only h3, fun g hg => ?_⟩
  unfold ownOf at hg ⊢
  rcases h5 with e | e
  · rw [e] at hg; exact .inl hg
  · rw [e] at hg
    simp at hg
    exact .inr (by omega)
theorem append_str (wr : World) (out : Value) (ss : List ByteArray) (x : ByteArray) (R : RowS wr out ss) (hl : ss.length + 1 ≤ 1000000000) :
    ∃ sv2 w2, (Builtin.append_ #[23, 23] 23 #[out, .slice (some ⟨wr.heap.size, 0, none⟩) 1 1]).run Try.prog (wr.alloc (.cells #[.string x] 9)) = .ok sv2 w2 ∧ RowS w2 sv2 (ss ++ [x]) ∧ Only (ownOf out) wr w2 ∧
      ∀ g, g ∈ ownOf sv2 → g ∈ ownOf out ∨ wr.heap.size ≤ g := by
  have ra : Only [] wr (wr.alloc (.cells #[.string x] 9)) := (Only.refl [] wr).alloc _
  obtain ⟨sv2, w2, hrun, hrow, honly, hown⟩ := run_append_strs (wr.alloc (.cells #[.string x] 9)) 23 _ _ (R.only ra (by simp)) ⟨wr.heap.size, 0, none⟩ 1 [x] (fun j u hj => by
    have hj0 : j = 0 := by have := (List.getElem?_eq_some_iff.1 hj).1; simp at this; omega
    subst hj0
    simp only [List.map_cons, List.map_nil, List.getElem?_cons_zero, Option.some.injEq] at hj
    rw [← hj, addr_add, World.cell?_alloc_new]
    rfl) (by simpa using hl)
  refine ⟨sv2, w2, hrun, hrow, (ra.mono (fun _ _ h => by cases h)).trans honly, fun g hg => ?_⟩
  rcases hown g hg with e | e
  · exact .inl e
  · exact .inr (by simp at e; omega)
end Go.Proofs.Ytfigmjlnjaihnaa
