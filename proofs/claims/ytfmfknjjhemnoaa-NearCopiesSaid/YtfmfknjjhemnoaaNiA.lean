/- An element of a row is another one; a slice of one macroblock. -/
import Derived.Test.YtfmfknjjhemnoaaNpU
namespace Go.Proofs.Ytfmfknjjhemnoaa
open Go.RowKit
set_option linter.unusedVariables false
set_option linter.unusedSimpArgs false

/-- Where a row lies. -/
theorem RowG.lies {α : Type} {C : α → List Value} {n : Nat} {E : TypeId} {w : World} {sv : Value} {l : List α} (h : RowG C n E w sv l) (h0 : 0 < l.length) : ∃ g c cur, sv = .slice (some ⟨g, 0, none⟩) l.length c ∧ Blk w g E cur ∧ l.length * n ≤ cur.size := by
  rcases h.2 with ⟨rfl, h1⟩ | ⟨g, cap, cur, rfl, hb, hh, h1, h2, h3, h4⟩
  · omega
  · exact ⟨g, cap, cur, rfl, hh, by rw [h3]; exact Nat.mul_le_mul_right n h1⟩
theorem RowG.setEl {α : Type} {C : α → List Value} {n : Nat} {E : TypeId} (K : CellsN C n) {w w' : World} {g c : Nat} {l : List α} {cur : Array Value} (h : RowG C n E w (.slice (some ⟨g, 0, none⟩) l.length c) l) (hB : Blk w g E cur) (i : Nat) (x : α) (hi : i < l.length) (hB2 : Blk w' g E (setsA cur (i * n) (C x))) : RowG C n E w' (.slice (some ⟨g, 0, none⟩) l.length c) (l.set i x) := by
  refine ⟨cellsG_length K _, ?_⟩
  rcases h.2 with ⟨e, _⟩ | ⟨g', cap, cur', e, hb, hh, h1, h2, h3, h4⟩
  · cases e
  · cases e
    have e1 := (show w.heap[g]? = _ from hB).symm.trans hh
    simp at e1
    subst e1
    have hn : i * n + n ≤ l.length * n := by
      have := Nat.mul_le_mul_right n (show i + 1 ≤ l.length from hi)
      rwa [Nat.add_mul, Nat.one_mul] at this
    have hs : l.length * n ≤ cur.size := by rw [h3]; exact Nat.mul_le_mul_right n h1
    have hl := setsA_mid (C x) (i * n) cur (by rw [K.len]; omega)
    refine .inr ⟨g, c, setsA cur (i * n) (C x), by rw [List.length_set], hb, hB2, by rw [List.length_set]; exact h1, h2, ?_, ?_⟩
    · have := congrArg List.length hl
      simp only [List.length_append, List.length_take, List.length_drop, Array.length_toList, K.len] at this
      rw [this, ← h3]
      omega
    · rw [List.length_set, hl, cellsG_set K l i x hi, ← h4, K.len, List.take_append, List.take_of_length_le (by simp [K.len]; omega)]
      congr 1
      · rw [List.take_take, Nat.min_eq_left (by omega)]
      · rw [List.drop_take]
        congr 1
        simp [K.len]
        omega
/-- A slice of one macroblock, in a block of its own. -/
theorem lin_one {w : World} {e : El} (h : EAt w e) : LIn (w.alloc (.cells (elC e).toArray 40)) (.slice (some ⟨w.heap.size, 0, none⟩) 1 1) [e] := by
  have := holdsG_lit elC_ok w 40 [e] (by unfold maxLen; simp)
  rw [show cellsG elC [e] = elC e from List.append_nil _] at this
  exact ⟨this, fun d hd => by simp at hd; subst hd; exact h.only0 ((Only.refl [] w).alloc _)⟩
theorem LIn.setEl {w w' : World} {g c i : Nat} {us : List El} {cur : Array Value} {e : El} (h : RowG elC 29 40 w (.slice (some ⟨g, 0, none⟩) us.length c) us) (hB : Blk w g 40 cur) (hi : i < us.length) (hB2 : Blk w' g 40 (setsA cur (i * 29) (elC e))) (he : ∀ d, d ∈ us → EAt w' d) (hx : EAt w' e) : LIn w' (.slice (some ⟨g, 0, none⟩) us.length c) (us.set i e) := by
  have h2 := (h.setEl elC_ok hB i e hi hB2).holds elC_ok
  exact ⟨h2, fun d hd => (List.mem_or_eq_of_mem_set hd).elim (he d) (fun q => q ▸ hx)⟩
theorem map_set {us : List El} {i : Nat} {e : El} : (us.set i e).map (·.1) = (us.map (·.1)).set i e.1 := List.map_set
/-- What is found does not depend on others. -/
theorem look_set {f : Int} {ms : List MV} {i : Nat} {x : MV} {a : Int} (h : f ≤ a → a - f ≠ i) : lookR f (ms.set i x) a = lookR f ms a := by
  unfold lookR
  split
  · rfl
  · rw [List.getElem?_set_ne (by have := h (by omega); omega)]
end Go.Proofs.Ytfmfknjjhemnoaa
