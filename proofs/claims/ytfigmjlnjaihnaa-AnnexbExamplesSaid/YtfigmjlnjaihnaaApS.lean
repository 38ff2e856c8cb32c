/- A slice of strings behind another. -/
import Derived.Test.YtfigmjlnjaihnaaCpS
import Derived.ArgAppend
namespace Go.Proofs.Ytfigmjlnjaihnaa
open Go.RowKit
set_option linter.unusedVariables false

theorem append_zero (w : World) (g n c : Nat) (hn : n ≤ c) (x : Option Addr) (d : Nat) :
    (Builtin.append_ #[23, 23] 23 #[.slice (some ⟨g, 0, none⟩) n c, .slice x 0 d]).run Try.prog w = .ok (.slice (some ⟨g, 0, none⟩) n c) w := by
  obtain ⟨i0, hi0, hz0, hs0, hb0⟩ := info_parts info_str
  cases x with
  | none => simp [Builtin.append_, run_underlying und_strs, sizeOf, typeInfo, hi0, Builtin.lenOf, Builtin.firstCells, storeCells, hn]
  | some x =>
    have h := run_append_room_cells (P := Try.prog) (w := w) 23 23 9 i0 und_strs hi0 g 0 n c x 0 d [] (by simp) (by simp) (by simp) hn (by simp) (by simp)
    simpa [World.setCells] using h
theorem append_rows (w : World) (out b : Value) (us vs : List ByteArray) (hr : RowS w out us) (hb : Holds w b vs) (hl : us.length + vs.length ≤ 1000000000) :
    ∃ sv w', (Builtin.append_ #[23, 23] 23 #[out, b]).run Try.prog w = .ok sv w' ∧ RowS w' sv (us ++ vs) ∧ Only (ownOf out) w w' ∧ ∀ g, g ∈ ownOf sv → g ∈ ownOf out ∨ w.heap.size ≤ g := by
  obtain ⟨a, d, rfl, HA⟩ := hb
  by_cases h0 : vs = []
  · subst h0
    refine ⟨out, w, ?_, by rw [List.append_nil]; exact hr, Only.refl _ _, fun g h => .inl h⟩
    rcases hr.2 with ⟨rfl, h1⟩ | ⟨g, cap, cur, rfl, _, _, h1, _⟩
    · exact append_nothing w a d
    · exact append_zero w g us.length cap h1 a d
  · obtain ⟨x, hx⟩ : ∃ x, vs[0]? = some x := ⟨vs[0]'(List.length_pos_iff.2 h0), List.getElem?_eq_getElem _⟩
    obtain ⟨ad, rfl, _⟩ := HA 0 x hx
    exact run_append_strs w 23 out us hr ad d vs (fun j v hj => by
      rw [List.getElem?_map] at hj
      cases hq : vs[j]? with
      | none => rw [hq] at hj; cases hj
      | some y =>
        rw [hq] at hj
        cases hj
        obtain ⟨ad2, e, h⟩ := HA j y hq
        cases e
        exact h) hl
end Go.Proofs.Ytfigmjlnjaihnaa
