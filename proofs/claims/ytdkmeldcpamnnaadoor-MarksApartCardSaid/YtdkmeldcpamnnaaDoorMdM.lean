/- Plain: lists of reference commands, their bits, what reads and what checks them. -/
import Derived.Test.YtdkmeldcpamnnaaDoorUeB
namespace Go.Proofs.YtdkmeldcpamnnaaDoor
set_option linter.unusedVariables false

/-- How many numbers a command has, and whether there is one with this Op. -/
def hasI (m : Bool) (op : Int) : Int × Bool :=
  if m = true then (if op = 1 ∨ op = 2 ∨ op = 4 ∨ op = 6 then (1, true) else if op = 3 then (2, true) else if op = 5 then (0, true) else (0, false))
  else (1, decide (0 ≤ op ∧ op ≤ 2))
/-- The Op that ends a list. -/
def endN (m : Bool) : Nat := if m = true then 0 else 3
/-- The error of one command. -/
def errI (m : Bool) (x : Int × Int × Int) : Int :=
  if (hasI m x.1).2 = false then 9
  else if ((hasI m x.1).1 < 2 ∧ x.2.2 ≠ 0) ∨ ((hasI m x.1).1 < 1 ∧ x.2.1 ≠ 0) then 2
  else if x.2.1 < 0 ∨ 4294967294 < x.2.1 ∨ x.2.2 < 0 ∨ 4294967294 < x.2.2 then 3 else 0
def firstE (m : Bool) : List (Int × Int × Int) → Int
  | [] => 0
  | x :: l => if errI m x ≠ 0 then errI m x else firstE m l
/-- What checks a list. -/
def checkI (m : Bool) (l : List (Int × Int × Int)) : Int := if 66 < l.length then 6 else firstE m l
/-- The bits of a command, of a list. -/
def modBits (m : Bool) (x : Int × Int × Int) : List Bool :=
  ueBits x.1.toNat ++ ((if decide (0 < (hasI m x.1).1) = true then ueBits x.2.1.toNat else []) ++ (if decide (1 < (hasI m x.1).1) = true then ueBits x.2.2.toNat else []))
def modsB (m : Bool) : List (Int × Int × Int) → List Bool
  | [] => []
  | x :: l => modBits m x ++ modsB m l
def listB (m : Bool) (l : List (Int × Int × Int)) : List Bool := modsB m l ++ ueBits (endN m)
/-- What writes a list: the error, the bits behind it. -/
def putI (m : Bool) (L : List Bool) (l : List (Int × Int × Int)) : Int × List Bool := if checkI m l ≠ 0 then (checkI m l, L) else (0, L ++ listB m l)
/-- A number that a command has, or has not. -/
def numR (s : ByteArray) (q : Nat) (b : Bool) : Int × Int × Nat := if b = true then ((rdUk s q 0).1, (rdUk s q 0).2.1, (rdUk s q 0).2.2) else (0, 0, q)
/-- One element of a list: an error; or the end, or a command, and the place behind it. -/
def stepI (m : Bool) (s : ByteArray) (full : Bool) (q : Nat) : Int × Option (Int × Int × Int) × Nat :=
  if (rdUk s q 0).2.1 ≠ 0 then ((rdUk s q 0).2.1, none, 0)
  else if (rdUk s q 0).1 = endN m then (0, none, (rdUk s q 0).2.2)
  else if (hasI m (rdUk s q 0).1).2 = false then (9, none, 0)
  else if full = true then (6, none, 0)
  else if (numR s (rdUk s q 0).2.2 (decide (0 < (hasI m (rdUk s q 0).1).1))).2.1 ≠ 0 then ((numR s (rdUk s q 0).2.2 (decide (0 < (hasI m (rdUk s q 0).1).1))).2.1, none, 0)
  else if (numR s (numR s (rdUk s q 0).2.2 (decide (0 < (hasI m (rdUk s q 0).1).1))).2.2 (decide (1 < (hasI m (rdUk s q 0).1).1))).2.1 ≠ 0 then ((numR s (numR s (rdUk s q 0).2.2 (decide (0 < (hasI m (rdUk s q 0).1).1))).2.2 (decide (1 < (hasI m (rdUk s q 0).1).1))).2.1, none, 0)
  else (0, some (((rdUk s q 0).1 : Int), (numR s (rdUk s q 0).2.2 (decide (0 < (hasI m (rdUk s q 0).1).1))).1, (numR s (numR s (rdUk s q 0).2.2 (decide (0 < (hasI m (rdUk s q 0).1).1))).2.2 (decide (1 < (hasI m (rdUk s q 0).1).1))).1), (numR s (numR s (rdUk s q 0).2.2 (decide (0 < (hasI m (rdUk s q 0).1).1))).2.2 (decide (1 < (hasI m (rdUk s q 0).1).1))).2.2)
/-- Commands, and then what another reading gives. -/
def joinT (done : List (Int × Int × Int)) (t : List (Int × Int × Int) × Int × Nat) : List (Int × Int × Int) × Int × Nat := if t.2.1 ≠ 0 then ([], t.2.1, 0) else (done ++ t.1, 0, t.2.2)
/-- A list, of which k more commands may be read. -/
def readF (m : Bool) (s : ByteArray) : Nat → Nat → List (Int × Int × Int) × Int × Nat
  | 0, q => match stepI m s true q with
    | (e, _, p) => joinT [] ([], e, p)
  | k + 1, q => match stepI m s false q with
    | (e, none, p) => joinT [] ([], e, p)
    | (e, some x, p) => joinT [x] (readF m s k p)
/-- What reads a list: the list, the error, the place behind it. -/
def readI (m : Bool) (s : ByteArray) (pos : Nat) : List (Int × Int × Int) × Int × Nat := ((readF m s 66 pos).1, (readF m s 66 pos).2.1, if (readF m s 66 pos).2.1 = 0 then (readF m s 66 pos).2.2 else pos)

theorem joinT_nil (t : List (Int × Int × Int) × Int × Nat) (h : t.2.1 ≠ 0 → t = ([], t.2.1, 0)) : joinT [] t = t := by
  unfold joinT
  by_cases e : t.2.1 = 0
  · rw [if_neg (fun x => x e), List.nil_append, ← e]
  · rw [if_pos e, ← h e]
theorem joinT_join (a b : List (Int × Int × Int)) (t : List (Int × Int × Int) × Int × Nat) : joinT a (joinT b t) = joinT (a ++ b) t := by
  unfold joinT
  by_cases e : t.2.1 = 0
  · simp [e, List.append_assoc]
  · simp [e]
theorem hasI_le {m : Bool} {op : Int} (h : (hasI m op).2 = true) : 0 ≤ op ∧ op ≤ 6 ∧ op ≠ (endN m : Nat) ∧ 0 ≤ (hasI m op).1 ∧ (hasI m op).1 ≤ 2 := by
  unfold hasI endN at *
  cases m
  · simp at h ⊢; omega
  · simp only [if_true] at h ⊢
    split at h
    · rename_i c; rw [if_pos c]; simp only [Int.ofNat_zero]; omega
    · rename_i c; rw [if_neg c]
      split at h
      · rename_i c; rw [if_pos c]; simp only [Int.ofNat_zero]; omega
      · rename_i c; rw [if_neg c]
        split at h
        · rename_i c; rw [if_pos c]; simp only [Int.ofNat_zero]; omega
        · cases h
theorem errI_ok {m : Bool} {x : Int × Int × Int} (h : errI m x = 0) : (hasI m x.1).2 = true ∧ ((hasI m x.1).1 < 2 → x.2.2 = 0) ∧ ((hasI m x.1).1 < 1 → x.2.1 = 0) ∧ 0 ≤ x.2.1 ∧ x.2.1 ≤ 4294967294 ∧ 0 ≤ x.2.2 ∧ x.2.2 ≤ 4294967294 := by
  unfold errI at h
  split at h
  · cases h
  · rename_i a
    split at h
    · cases h
    · rename_i b
      split at h
      · cases h
      · rename_i c
        refine ⟨by simpa using a, fun e => ?_, fun e => ?_, by omega, by omega, by omega, by omega⟩
        · exact Classical.byContradiction fun z => b (.inl ⟨e, z⟩)
        · exact Classical.byContradiction fun z => b (.inr ⟨e, z⟩)
theorem errI_of {m : Bool} {x : Int × Int × Int} (h : (hasI m x.1).2 = true) (h1 : (hasI m x.1).1 < 2 → x.2.2 = 0) (h2 : (hasI m x.1).1 < 1 → x.2.1 = 0) (a : 0 ≤ x.2.1) (b : x.2.1 ≤ 4294967294) (c : 0 ≤ x.2.2) (d : x.2.2 ≤ 4294967294) : errI m x = 0 := by
  unfold errI
  rw [if_neg (by rw [h]; simp), if_neg, if_neg (by omega)]
  rintro (⟨e, f⟩ | ⟨e, f⟩)
  · exact f (h1 e)
  · exact f (h2 e)
end Go.Proofs.YtdkmeldcpamnnaaDoor
