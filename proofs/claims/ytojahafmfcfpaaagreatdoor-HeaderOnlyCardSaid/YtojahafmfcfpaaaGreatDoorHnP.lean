/- Plain: headers that were made, their bits; headers of the same unit; with and without arithmetic codes. -/
import Derived.Test.YtojahafmfcfpaaaGreatDoorHmA
import Derived.Test.YtojahafmfcfpaaaGreatDoorMg19
namespace Go.Proofs.YtojahafmfcfpaaaGreatDoor
open Go.RowKit
set_option linter.unusedVariables false
set_option linter.unusedSimpArgs false

theorem hBits_ok {un : UN} {x : HV} (h : checkH un x = 0) : hBits un x = bitsH un x := if_pos h
theorem chars_data (l : List Bool) : (chars l).data = (l.map fun b => if b then (49 : UInt8) else 48).toArray := rfl
theorem chars_extract (l : List Bool) (i j : Nat) : (chars l).extract i j = chars ((l.take j).drop i) := by
  have : ((chars l).extract i j).data = (chars ((l.take j).drop i)).data := by
    rw [ByteArray.data_extract, chars_data, chars_data]
    simp [List.map_drop, List.map_take, List.drop_take]
  exact ByteArray.ext this
theorem chars_append (a b : List Bool) : chars a ++ chars b = chars (a ++ b) := by
  have : (chars a ++ chars b).data = (chars (a ++ b)).data := by
    rw [ByteArray.data_append, chars_data, chars_data, chars_data]
    simp
  exact ByteArray.ext this
theorem chars_get (l : List Bool) (i : Nat) (h : i < (chars l).size) : (chars l)[i]'h = if l[i]'(by simpa using h) then 49 else 48 := by
  show (chars l).data[i] = _
  simp [chars_data]
/-- Of two headers of a unit neither's bits are the other's beginning. -/
theorem apart_eq {un : UN} {x y : HV} (hx : checkH un x = 0) (hy : checkH un y = 0) (k : Nat) (hk : k = min (bitsH un x).length (bitsH un y).length) : (bitsH un x).take k = (bitsH un y).take k ↔ x = y := by
  constructor
  · intro h
    rcases Nat.le_total (bitsH un x).length (bitsH un y).length with hl | hl
    · rw [show k = (bitsH un x).length by omega, List.take_length] at h
      exact apart_h hx hy ⟨(bitsH un y).drop (bitsH un x).length, by rw [← List.take_append_drop (bitsH un x).length (bitsH un y), ← h]; simp⟩
    · rw [show k = (bitsH un y).length by omega, List.take_length] at h
      exact (apart_h hy hx ⟨(bitsH un x).drop (bitsH un y).length, by rw [← List.take_append_drop (bitsH un y).length (bitsH un x), h]; simp⟩).symm
  · rintro rfl; rfl
/-- The unit with arithmetic codes. -/
def cabU (un : UN) : UN := { un with p := { un.p with cab := true } }
theorem step_cab (un : UN) (x : HV) (j : Nat) (hj : j ≠ 10) : stepB (cabU un) x j = stepB un x j ∧ stepE (cabU un) x j = stepE un x j := by
  match j, hj with
  | 0, _ => exact ⟨rfl, rfl⟩
  | 1, _ => exact ⟨rfl, rfl⟩
  | 2, _ => exact ⟨rfl, rfl⟩
  | 3, _ => exact ⟨rfl, rfl⟩
  | 4, _ => exact ⟨rfl, rfl⟩
  | 5, _ => exact ⟨rfl, rfl⟩
  | 6, _ => exact ⟨rfl, rfl⟩
  | 7, _ => exact ⟨rfl, rfl⟩
  | 8, _ => exact ⟨rfl, rfl⟩
  | 9, _ => exact ⟨rfl, rfl⟩
  | 10, h => exact absurd rfl h
  | 11, _ => exact ⟨rfl, rfl⟩
  | 12, _ => exact ⟨rfl, rfl⟩
  | 13, _ => exact ⟨rfl, rfl⟩
  | 14, _ => exact ⟨rfl, rfl⟩
  | n + 15, _ => exact ⟨rfl, rfl⟩
theorem restE_all {un : UN} {x : HV} : ∀ (k j : Nat), restE un x k j = 0 → ∀ i, j ≤ i → i < j + k → stepE un x i = 0 := by
  intro k
  induction k with
  | zero => intro j _ i h1 h2; omega
  | succ k ih =>
    intro j h i h1 h2
    obtain ⟨a, b⟩ := restE_cons h
    by_cases e : i = j
    · subst e; exact a
    · exact ih (j + 1) b i (by omega) (by omega)
theorem check_cab {un : UN} {x : HV} (h : checkH un x = 0) (hi : x.ini = 0) : checkH (cabU un) x = 0 := by
  obtain ⟨h1, h2, h3⟩ := checkH_ok h
  have e1 : unE (cabU un) = unE un := rfl
  have e2 : beginE (cabU un) x = beginE un x := rfl
  unfold checkH
  rw [e1, e2, if_neg (fun z => z h1), if_neg (fun z => z h2)]
  refine restE_of fun j hj => ?_
  by_cases e : j = 10
  · subst e
    exact numE_of (fun _ => by rw [hi]; simp only [Cd.lo, Cd.hi]; omega) (fun _ => hi)
  · rw [(step_cab un x j e).2]; exact restE_all 15 0 h3 j (by omega) (by omega)
theorem restB_split (un : UN) (x : HV) : ∀ (a b j : Nat), restB un x (a + b) j = restB un x a j ++ restB un x b (j + a) := by
  intro a
  induction a with
  | zero => intro b j; simp [restB]
  | succ a ih => intro b j; rw [show a + 1 + b = a + b + 1 by omega, restB, restB, ih b (j + 1), List.append_assoc, show j + 1 + a = j + (a + 1) by omega]
theorem restB_cab (un : UN) (x : HV) : ∀ (k j : Nat), (∀ i, j ≤ i → i < j + k → i ≠ 10) → restB (cabU un) x k j = restB un x k j := by
  intro k
  induction k with
  | zero => intro j _; rfl
  | succ k ih => intro j h; rw [restB, restB, (step_cab un x j (h j (by omega) (by omega))).1, ih (j + 1) (fun i h1 h2 => h i (by omega) (by omega))]
theorem bits_cab (un : UN) (x : HV) (hc : un.p.cab = false) (hi : x.ini = 0) : ∃ A B, bitsH un x = A ++ B ∧ bitsH (cabU un) x = A ++ ((if x.intra = true then [] else [true]) ++ B) := by
  refine ⟨beginB x ++ restB un x 10 0, restB un x 4 11, ?_, ?_⟩
  · unfold bitsH
    rw [show (15 : Nat) = 10 + (1 + 4) from rfl, restB_split, restB_split, List.append_assoc]
    have : restB un x 1 (0 + 10) = [] := by
      show stepB un x 10 ++ [] = []
      simp [stepB, numB, iniH, hc]
    rw [this]; rfl
  · unfold bitsH
    rw [show (15 : Nat) = 10 + (1 + 4) from rfl, restB_split, restB_split, restB_cab un x 10 0 (fun i h1 h2 => by omega), restB_cab un x 4 (0 + 10 + 1) (fun i h1 h2 => by omega), List.append_assoc]
    have : restB (cabU un) x 1 (0 + 10) = if x.intra = true then [] else [true] := by
      show stepB (cabU un) x 10 ++ [] = _
      have e : ueBits 0 = [true] := by decide +kernel
      cases h : x.intra <;> simp [stepB, numB, iniH, cabU, h, hi, cdBits, e]
    rw [this]
theorem andNot_even (h : Int) : bits .andNot .i64 h 1 % 2 = 0 := by
  have key : (BitVec.ofInt 64 h &&& ~~~BitVec.ofInt 64 1).toNat % 2 = 0 := by
    have h1 : (BitVec.ofInt 64 h &&& ~~~BitVec.ofInt 64 1).getLsbD 0 = false := by
      rw [BitVec.getLsbD_and, BitVec.getLsbD_not]
      have : (BitVec.ofInt 64 1).getLsbD 0 = true := by decide
      simp [this]
    have h2 : (BitVec.ofInt 64 h &&& ~~~BitVec.ofInt 64 1).toNat.testBit 0 = false := h1
    rw [Nat.testBit_zero] at h2
    have h3 := of_decide_eq_false h2
    omega
  show IntKind.i64.wrap (((BitVec.ofInt 64 h &&& ~~~BitVec.ofInt 64 1).toNat : Nat) : Int) % 2 = 0
  rw [IntKind.wrap_i64]
  generalize (BitVec.ofInt 64 h &&& ~~~BitVec.ofInt 64 1).toNat = m at *
  omega
theorem andNot_cab (h : Int) : (bits .and .i64 (bits .andNot .i64 h 1) 1 == 1) = false := by
  have e := i64_mask (bits .andNot .i64 h 1) 1 (by decide)
  have e2 := andNot_even h
  rw [beq_eq_false_iff_ne]
  have : bits .and .i64 (bits .andNot .i64 h 1) 1 = bits .andNot .i64 h 1 % 2 := e
  omega
end Go.Proofs.YtojahafmfcfpaaaGreatDoor
