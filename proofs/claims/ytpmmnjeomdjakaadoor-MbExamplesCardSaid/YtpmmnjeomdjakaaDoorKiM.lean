/- Plain facts of chapter 12: types, parts. -/
import Derived.Test.YtpmmnjeomdjakaaDoorRows
namespace Go.Proofs.YtpmmnjeomdjakaaDoor
set_option linter.unusedVariables false
set_option linter.unusedSimpArgs false

/-- The type of a macroblock of kind k, mode m, cbp c, and an error. -/
def typeI (k m c : Int) (i : Bool) : Int × Int :=
  if k = 1 then (if 3 < m ∨ 2 < c / 16 ∨ (c % 16 ≠ 0 ∧ c % 16 ≠ 15) then (0, 3) else (1 + m + 4 * (c / 16) + (if c % 16 = 15 then 12 else 0) + (if i then 0 else 5), 0))
  else if k = 0 then (if i then 0 else 5, 0)
  else if k = 2 then (if i then 25 else 30, 0)
  else if 3 ≤ k ∧ k ≤ 6 then (if i then (0, 9) else (k - 3, 0))
  else (0, 9)
/-- What has a type: kind, mode, cbp, and an error. -/
def ofI (n : Int) (i : Bool) : (Int × Int × Int) × Int :=
  if i = false ∧ 0 ≤ n ∧ n ≤ 3 then ((n + 3, 0, 0), 0)
  else
    let t := if i then n else n - 5
    if t = 0 then ((0, 0, 0), 0)
    else if t = 25 then ((2, 0, 0), 0)
    else if 1 ≤ t ∧ t ≤ 24 then ((1, (t - 1) % 4, 16 * ((t - 1) / 4 % 3) + 15 * ((t - 1) / 12)), 0)
    else ((0, 0, 0), 3)
theorem ofI_ok (n : Int) (i : Bool) : (ofI n i).2 = 0 ↔ (0 ≤ n ∧ n ≤ (if i then 25 else 30) ∧ (i = true ∨ n ≠ 4)) := by
  unfold ofI
  cases i <;> simp only [Bool.false_eq_true, if_false, if_true, false_and, true_and, reduceCtorEq, false_or, true_or, and_true]
  · split
    · simp; omega
    · split
      · simp; omega
      · split
        · simp; omega
        · split
          · simp; omega
          · simp; omega
  · split
    · simp; omega
    · split
      · simp; omega
      · split
        · simp; omega
        · simp; omega
theorem ofI_err (n : Int) (i : Bool) : (ofI n i).2 = 0 ∨ ofI n i = ((0, 0, 0), 3) := by
  unfold ofI
  dsimp only
  repeat' split
  all_goals simp
theorem type_of (n : Int) (i : Bool) (h : (ofI n i).2 = 0) : typeI (ofI n i).1.1 (ofI n i).1.2.1 (ofI n i).1.2.2 i = (n, 0) := by
  have hb := (ofI_ok n i).1 h
  have key : ∀ i : Bool, ∀ k : Fin 31, (ofI (k.1 : Int) i).2 = 0 → typeI (ofI k.1 i).1.1 (ofI k.1 i).1.2.1 (ofI k.1 i).1.2.2 i = ((k.1 : Int), 0) := by decide +kernel
  obtain ⟨m, rfl⟩ := Int.eq_ofNat_of_zero_le hb.1
  have hm : m < 31 := by have := hb.2.1; cases i <;> simp at this <;> omega
  exact key i ⟨m, hm⟩ h
theorem typeI_err (k m c : Int) (i : Bool) : (typeI k m c i).2 = 0 ∨ (typeI k m c i).1 = 0 := by
  unfold typeI
  repeat' split
  all_goals simp
theorem of_type (k m c : Nat) (i : Bool) (kb : k < 256) (mb : m < 256) (cb : c < 256) (hz : k ≠ 1 → m = 0 ∧ c = 0) (h : (typeI k m c i).2 = 0) : ofI (typeI k m c i).1 i = (((k : Int), (m : Int), (c : Int)), 0) := by
  by_cases h1 : k = 1
  · subst h1
    have key : ∀ i : Bool, ∀ m : Fin 4, ∀ c : Fin 48, (typeI 1 (m.1 : Int) (c.1 : Int) i).2 = 0 → ofI (typeI 1 (m.1 : Int) (c.1 : Int) i).1 i = ((1, (m.1 : Int), (c.1 : Int)), 0) := by decide +kernel
    have hb : m < 4 ∧ c < 48 := by
      unfold typeI at h
      rw [if_pos (show ((1 : Nat) : Int) = 1 from rfl)] at h
      split at h
      · simp at h
      · rename_i hn; omega
    exact key i ⟨m, hb.1⟩ ⟨c, hb.2⟩ h
  · obtain ⟨rfl, rfl⟩ := hz h1
    have key : ∀ i : Bool, ∀ k : Fin 7, k.1 ≠ 1 → (typeI (k.1 : Int) 0 0 i).2 = 0 → ofI (typeI (k.1 : Int) 0 0 i).1 i = (((k.1 : Int), 0, 0), 0) := by decide +kernel
    have hb : k < 7 := by
      unfold typeI at h
      rw [if_neg (by omega)] at h
      repeat' split at h
      all_goals first | omega | (simp at h)
    exact key i ⟨k, hb⟩ h1 h
/-- How many partitions. -/
def partsI (k : Int) : Int := if k = 3 then 1 else if k = 4 ∨ k = 5 then 2 else if k = 6 then 4 else 0
def colN (k : Nat) : Nat := k % 2 + 2 * (k / 4 % 2)
def rowN (k : Nat) : Nat := k / 2 % 2 + 2 * (k / 8)
def inN (x y wd ht k : Nat) : Bool := decide (x ≤ colN k) && decide (colN k < x + wd) && decide (y ≤ rowN k) && decide (rowN k < y + ht)
def withinN (x y wd ht n : Nat) : List Int := ((List.range n).filter (inN x y wd ht)).map Int.ofNat
theorem withinN_succ (x y wd ht n : Nat) : withinN x y wd ht (n + 1) = withinN x y wd ht n ++ (if inN x y wd ht n then [(n : Int)] else []) := by
  unfold withinN
  rw [List.range_succ, List.filter_append, List.map_append]
  cases h : inN x y wd ht n <;> simp [List.filter, h]
/-- The parts of the quarter i that is divided so. -/
def quarterN (i s : Nat) : List (Int × List Int) :=
  let x := 2 * (i % 2)
  let y := 2 * (i / 2)
  if s = 0 then [((i : Int), withinN x y 2 2 16)]
  else if s = 1 then [((i : Int), withinN x y 2 1 16), ((i : Int), withinN x (y + 1) 2 1 16)]
  else if s = 2 then [((i : Int), withinN x y 1 2 16), ((i : Int), withinN (x + 1) y 1 2 16)]
  else [((i : Int), withinN x y 1 1 16), ((i : Int), withinN (x + 1) y 1 1 16), ((i : Int), withinN x (y + 1) 1 1 16), ((i : Int), withinN (x + 1) (y + 1) 1 1 16)]
/-- The parts of the quarters from i on, and an error. -/
def quartersN : List Nat → Nat → Option (List (Int × List Int))
  | [], _ => some []
  | s :: l, i => if 3 < s then none else (quartersN l (i + 1)).map (quarterN i s ++ ·)
/-- The parts of a macroblock, and an error. -/
def allN (k : Nat) (s : List Nat) : List (Int × List Int) × Int :=
  if k = 3 then ([(0, withinN 0 0 4 4 16)], 0)
  else if k = 4 then ([(0, withinN 0 0 4 2 16), (1, withinN 0 2 4 2 16)], 0)
  else if k = 5 then ([(0, withinN 0 0 2 4 16), (1, withinN 2 0 2 4 16)], 0)
  else if k = 6 then (match quartersN s 0 with
    | some l => (l, 0)
    | none => ([], 3))
  else ([], 9)
def piecesN (k : Nat) (s : List Nat) : Int × Int := (((allN k s).1.length : Int), (allN k s).2)
def oneN (k : Nat) (s : List Nat) (p : Int) : (Int × List Int) × Int :=
  if (allN k s).2 ≠ 0 then ((0, []), (allN k s).2)
  else if p < 0 ∨ ((allN k s).1.length : Int) ≤ p then ((0, []), 3)
  else ((allN k s).1.getD p.toNat (0, []), 0)
end Go.Proofs.YtpmmnjeomdjakaaDoor
