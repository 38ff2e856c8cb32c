/- What layer 11 asks: columns and rows of blocks, the blocks nearby. Plain. -/
import Derived.Test.YtnpfjmblgjojcaaDoorObj
namespace Go.Proofs.YtnpfjmblgjojcaaDoor
open Go.RowKit

def atI (k : Int) : Int × Int × Int := if 0 ≤ k ∧ k ≤ 15 then (k % 2 + 2 * (k / 4 % 2), k / 2 % 2 + 2 * (k / 8), 0) else (0, 0, 3)
def blockI (x y : Int) : Int × Int := if (0 ≤ x ∧ x ≤ 3) ∧ 0 ≤ y ∧ y ≤ 3 then (x % 2 + 2 * (y % 2) + 4 * (x / 2) + 8 * (y / 2), 0) else (0, 3)
def leftI (k : Int) : Int × Bool × Int := if 0 ≤ k ∧ k ≤ 15 then ((blockI (((atI k).1 + 3) % 4) (atI k).2.1).1, decide (0 < (atI k).1), 0) else (0, false, 3)
def aboveI (k : Int) : Int × Bool × Int := if 0 ≤ k ∧ k ≤ 15 then ((blockI (atI k).1 (((atI k).2.1 + 3) % 4)).1, decide (0 < (atI k).2.1), 0) else (0, false, 3)
def chLeftI (k : Int) : Int × Bool × Int := if 0 ≤ k ∧ k ≤ 3 then (if k % 2 = 1 then (k - 1, true, 0) else (k + 1, false, 0)) else (0, false, 3)
def chAboveI (k : Int) : Int × Bool × Int := if 0 ≤ k ∧ k ≤ 3 then (if 1 < k then (k - 2, true, 0) else (k + 2, false, 0)) else (0, false, 3)
theorem atI_in {k : Int} (h : 0 ≤ k ∧ k ≤ 15) : (0 ≤ (atI k).1 ∧ (atI k).1 ≤ 3) ∧ (0 ≤ (atI k).2.1 ∧ (atI k).2.1 ≤ 3) ∧ (atI k).2.2 = 0 := by
  unfold atI
  rw [if_pos h]
  dsimp only
  omega
theorem atI_out {k : Int} (h : ¬ (0 ≤ k ∧ k ≤ 15)) : atI k = (0, 0, 3) := by unfold atI; rw [if_neg h]
theorem block_at {k : Int} (h : 0 ≤ k ∧ k ≤ 15) : blockI (atI k).1 (atI k).2.1 = (k, 0) := by
  have := atI_in h
  unfold blockI
  rw [if_pos ⟨this.1, this.2.1⟩]
  unfold atI
  rw [if_pos h]
  dsimp only
  congr 1
  omega
theorem at_block {x y : Int} (h : (0 ≤ x ∧ x ≤ 3) ∧ 0 ≤ y ∧ y ≤ 3) : (0 ≤ (blockI x y).1 ∧ (blockI x y).1 ≤ 15) ∧ atI (blockI x y).1 = (x, y, 0) ∧ (blockI x y).2 = 0 := by
  unfold blockI
  rw [if_pos h]
  dsimp only
  have b : 0 ≤ x % 2 + 2 * (y % 2) + 4 * (x / 2) + 8 * (y / 2) ∧ x % 2 + 2 * (y % 2) + 4 * (x / 2) + 8 * (y / 2) ≤ 15 := by omega
  refine ⟨b, ?_, rfl⟩
  unfold atI
  rw [if_pos b]
  have hx : x = 0 ∨ x = 1 ∨ x = 2 ∨ x = 3 := by omega
  have hy : y = 0 ∨ y = 1 ∨ y = 2 ∨ y = 3 := by omega
  rcases hx with rfl | rfl | rfl | rfl <;> rcases hy with rfl | rfl | rfl | rfl <;> decide
theorem block_out {x y : Int} (h : ¬ ((0 ≤ x ∧ x ≤ 3) ∧ 0 ≤ y ∧ y ≤ 3)) : blockI x y = (0, 3) := by unfold blockI; rw [if_neg h]
/-- The one block at a column and a row. -/
theorem at_iff {k x y : Int} (h : 0 ≤ k ∧ k ≤ 15) : ((atI k).1 = x ∧ (atI k).2.1 = y) ↔ ((0 ≤ x ∧ x ≤ 3) ∧ 0 ≤ y ∧ y ≤ 3) ∧ (blockI x y).1 = k := by
  constructor
  · rintro ⟨rfl, rfl⟩
    exact ⟨⟨(atI_in h).1, (atI_in h).2.1⟩, by rw [block_at h]⟩
  · rintro ⟨h2, rfl⟩
    rw [(at_block h2).2.1]
    exact ⟨rfl, rfl⟩
def nearI (a f v : Int) : Int × Int × Int :=
  if (1 ≤ v ∧ v ≤ 128) ∧ (0 ≤ f ∧ f < 8160) ∧ f ≤ a ∧ a < 8160 then ((if a % v ≠ 0 ∧ f ≤ a - 1 then a - 1 else -1), (if f ≤ a - v then a - v else -1), 0) else (0, 0, 3)
end Go.Proofs.YtnpfjmblgjojcaaDoor
