/- Steps from block to block, one by one. Plain. -/
import Derived.Test.YtnpfjmblgjojcaaDoorPlO
namespace Go.Proofs.YtnpfjmblgjojcaaDoor
open Go.RowKit
set_option linter.unusedVariables false
set_option linter.unusedSimpArgs false

theorem leftI_0 : leftI 0 = (5, false, 0) := by decide
theorem leftI_1 : leftI 1 = (0, true, 0) := by decide
theorem leftI_2 : leftI 2 = (7, false, 0) := by decide
theorem leftI_3 : leftI 3 = (2, true, 0) := by decide
theorem leftI_4 : leftI 4 = (1, true, 0) := by decide
theorem leftI_5 : leftI 5 = (4, true, 0) := by decide
theorem leftI_6 : leftI 6 = (3, true, 0) := by decide
theorem leftI_7 : leftI 7 = (6, true, 0) := by decide
theorem leftI_8 : leftI 8 = (13, false, 0) := by decide
theorem leftI_9 : leftI 9 = (8, true, 0) := by decide
theorem leftI_10 : leftI 10 = (15, false, 0) := by decide
theorem leftI_11 : leftI 11 = (10, true, 0) := by decide
theorem leftI_12 : leftI 12 = (9, true, 0) := by decide
theorem leftI_13 : leftI 13 = (12, true, 0) := by decide
theorem leftI_14 : leftI 14 = (11, true, 0) := by decide
theorem leftI_15 : leftI 15 = (14, true, 0) := by decide
theorem aboveI_0 : aboveI 0 = (10, false, 0) := by decide
theorem aboveI_1 : aboveI 1 = (11, false, 0) := by decide
theorem aboveI_2 : aboveI 2 = (0, true, 0) := by decide
theorem aboveI_3 : aboveI 3 = (1, true, 0) := by decide
theorem aboveI_4 : aboveI 4 = (14, false, 0) := by decide
theorem aboveI_5 : aboveI 5 = (15, false, 0) := by decide
theorem aboveI_6 : aboveI 6 = (4, true, 0) := by decide
theorem aboveI_7 : aboveI 7 = (5, true, 0) := by decide
theorem aboveI_8 : aboveI 8 = (2, true, 0) := by decide
theorem aboveI_9 : aboveI 9 = (3, true, 0) := by decide
theorem aboveI_10 : aboveI 10 = (8, true, 0) := by decide
theorem aboveI_11 : aboveI 11 = (9, true, 0) := by decide
theorem aboveI_12 : aboveI 12 = (6, true, 0) := by decide
theorem aboveI_13 : aboveI 13 = (7, true, 0) := by decide
theorem aboveI_14 : aboveI 14 = (12, true, 0) := by decide
theorem aboveI_15 : aboveI 15 = (13, true, 0) := by decide
theorem chLeftI_0 : chLeftI 0 = (1, false, 0) := by decide
theorem chLeftI_1 : chLeftI 1 = (0, true, 0) := by decide
theorem chLeftI_2 : chLeftI 2 = (3, false, 0) := by decide
theorem chLeftI_3 : chLeftI 3 = (2, true, 0) := by decide
theorem chAboveI_0 : chAboveI 0 = (2, false, 0) := by decide
theorem chAboveI_1 : chAboveI 1 = (3, false, 0) := by decide
theorem chAboveI_2 : chAboveI 2 = (0, true, 0) := by decide
theorem chAboveI_3 : chAboveI 3 = (1, true, 0) := by decide
theorem meet_luma : MeetI leftI aboveI 16 := by
  intro x h0 h1
  have c : x = 0 ∨ x = 1 ∨ x = 2 ∨ x = 3 ∨ x = 4 ∨ x = 5 ∨ x = 6 ∨ x = 7 ∨ x = 8 ∨ x = 9 ∨ x = 10 ∨ x = 11 ∨ x = 12 ∨ x = 13 ∨ x = 14 ∨ x = 15 := by omega
  rcases c with rfl | rfl | rfl | rfl | rfl | rfl | rfl | rfl | rfl | rfl | rfl | rfl | rfl | rfl | rfl | rfl <;> simp only [leftI_0, leftI_1, leftI_2, leftI_3, leftI_4, leftI_5, leftI_6, leftI_7, leftI_8, leftI_9, leftI_10, leftI_11, leftI_12, leftI_13, leftI_14, leftI_15, aboveI_0, aboveI_1, aboveI_2, aboveI_3, aboveI_4, aboveI_5, aboveI_6, aboveI_7, aboveI_8, aboveI_9, aboveI_10, aboveI_11, aboveI_12, aboveI_13, aboveI_14, aboveI_15] <;> decide
theorem meet_luma2 : MeetI aboveI leftI 16 := by
  intro x h0 h1
  have c : x = 0 ∨ x = 1 ∨ x = 2 ∨ x = 3 ∨ x = 4 ∨ x = 5 ∨ x = 6 ∨ x = 7 ∨ x = 8 ∨ x = 9 ∨ x = 10 ∨ x = 11 ∨ x = 12 ∨ x = 13 ∨ x = 14 ∨ x = 15 := by omega
  rcases c with rfl | rfl | rfl | rfl | rfl | rfl | rfl | rfl | rfl | rfl | rfl | rfl | rfl | rfl | rfl | rfl <;> simp only [leftI_0, leftI_1, leftI_2, leftI_3, leftI_4, leftI_5, leftI_6, leftI_7, leftI_8, leftI_9, leftI_10, leftI_11, leftI_12, leftI_13, leftI_14, leftI_15, aboveI_0, aboveI_1, aboveI_2, aboveI_3, aboveI_4, aboveI_5, aboveI_6, aboveI_7, aboveI_8, aboveI_9, aboveI_10, aboveI_11, aboveI_12, aboveI_13, aboveI_14, aboveI_15] <;> decide
theorem meet_ch : MeetI chLeftI chAboveI 4 := by
  intro x h0 h1
  have c : x = 0 ∨ x = 1 ∨ x = 2 ∨ x = 3 := by omega
  rcases c with rfl | rfl | rfl | rfl <;> simp only [chLeftI_0, chLeftI_1, chLeftI_2, chLeftI_3, chAboveI_0, chAboveI_1, chAboveI_2, chAboveI_3] <;> decide
theorem meet_ch2 : MeetI chAboveI chLeftI 4 := by
  intro x h0 h1
  have c : x = 0 ∨ x = 1 ∨ x = 2 ∨ x = 3 := by omega
  rcases c with rfl | rfl | rfl | rfl <;> simp only [chLeftI_0, chLeftI_1, chLeftI_2, chLeftI_3, chAboveI_0, chAboveI_1, chAboveI_2, chAboveI_3] <;> decide
theorem ends_luma : ∀ x, 0 ≤ x → x < 16 → (goI leftI x 4 = x ∧ outI leftI x 4 = 1) ∧ goI aboveI x 4 = x ∧ outI aboveI x 4 = 1 := by
  intro x h0 h1
  have c : x = 0 ∨ x = 1 ∨ x = 2 ∨ x = 3 ∨ x = 4 ∨ x = 5 ∨ x = 6 ∨ x = 7 ∨ x = 8 ∨ x = 9 ∨ x = 10 ∨ x = 11 ∨ x = 12 ∨ x = 13 ∨ x = 14 ∨ x = 15 := by omega
  rcases c with rfl | rfl | rfl | rfl | rfl | rfl | rfl | rfl | rfl | rfl | rfl | rfl | rfl | rfl | rfl | rfl <;> simp [goI, outI, leftI_0, leftI_1, leftI_2, leftI_3, leftI_4, leftI_5, leftI_6, leftI_7, leftI_8, leftI_9, leftI_10, leftI_11, leftI_12, leftI_13, leftI_14, leftI_15, aboveI_0, aboveI_1, aboveI_2, aboveI_3, aboveI_4, aboveI_5, aboveI_6, aboveI_7, aboveI_8, aboveI_9, aboveI_10, aboveI_11, aboveI_12, aboveI_13, aboveI_14, aboveI_15]
theorem ends_ch : ∀ x, 0 ≤ x → x < 4 → (goI chLeftI x 2 = x ∧ outI chLeftI x 2 = 1) ∧ goI chAboveI x 2 = x ∧ outI chAboveI x 2 = 1 := by
  intro x h0 h1
  have c : x = 0 ∨ x = 1 ∨ x = 2 ∨ x = 3 := by omega
  rcases c with rfl | rfl | rfl | rfl <;> simp [goI, outI, chLeftI_0, chLeftI_1, chLeftI_2, chLeftI_3, chAboveI_0, chAboveI_1, chAboveI_2, chAboveI_3]
end Go.Proofs.YtnpfjmblgjojcaaDoor
