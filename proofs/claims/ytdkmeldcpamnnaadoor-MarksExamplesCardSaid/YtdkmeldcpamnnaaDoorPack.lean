/- Plain facts on lists of bits, and on the bytes that hold them. -/
import Derived.Test.YtdkmeldcpamnnaaDoorMath
namespace Go.Proofs.YtdkmeldcpamnnaaDoor
set_option linter.unusedVariables false

/-- The number of n bits of f, from pos on. -/
def valF (f : Nat → Bool) (pos : Nat) : Nat → Nat
  | 0 => 0
  | n + 1 => 2 * valF f pos n + (f (pos + n)).toNat

theorem valOf_eq (s : ByteArray) (pos n : Nat) : valOf s pos n = valF (bitAt s) pos n := by
  induction n with
  | zero => rfl
  | succ n ih => simp only [valOf, valF, ih]
theorem valF_lt (f : Nat → Bool) (pos n : Nat) : valF f pos n < 2 ^ n := by
  induction n with
  | zero => simp [valF]
  | succ n ih => simp only [valF, Nat.pow_succ]; have : (f (pos + n)).toNat ≤ 1 := Bool.toNat_le _; omega
theorem valF_congr {f g : Nat → Bool} {p q n : Nat} (h : ∀ j, j < n → f (p + j) = g (q + j)) : valF f p n = valF g q n := by
  induction n with
  | zero => rfl
  | succ n ih => simp only [valF]; rw [ih (fun j hj => h j (by omega)), h n (by omega)]
theorem valF_bit (f : Nat → Bool) (pos n j : Nat) (h : j < n) : (valF f pos n).testBit (n - 1 - j) = f (pos + j) := by
  induction n with
  | zero => omega
  | succ n ih =>
    simp only [valF]
    have hb : (f (pos + n)).toNat ≤ 1 := Bool.toNat_le _
    by_cases e : j = n
    · subst e
      rw [show j + 1 - 1 - j = 0 from by omega, Nat.testBit_zero]
      cases f (pos + j) <;> simp <;> omega
    · rw [show n + 1 - 1 - j = (n - 1 - j) + 1 from by omega, Nat.testBit_succ, ← ih (by omega)]
      congr 1
      omega
/-- A number of n bits is known by its bits. -/
theorem eq_valF (x : Nat) (f : Nat → Bool) (pos n : Nat) (hx : x < 2 ^ n) (h : ∀ j, j < n → x.testBit (n - 1 - j) = f (pos + j)) : x = valF f pos n := by
  apply Nat.eq_of_testBit_eq
  intro i
  by_cases hi : i < n
  · have e : i = n - 1 - (n - 1 - i) := by omega
    rw [e, h _ (by omega), valF_bit _ _ _ _ (by omega)]
  · rw [Nat.testBit_lt_two_pow (Nat.lt_of_lt_of_le hx (Nat.pow_le_pow_right (by omega) (by omega))), Nat.testBit_lt_two_pow (Nat.lt_of_lt_of_le (valF_lt f pos n) (Nat.pow_le_pow_right (by omega) (by omega)))]

/-- The bit i of a list, false behind its end; its bytes. -/
def bitL (l : List Bool) (i : Nat) : Bool := l.getD i false
def byteL (l : List Bool) (i : Nat) : Nat := valF (bitL l) (8 * i) 8
/-- The n bits of v, the highest one first. -/
def bitsOf (n v : Nat) : List Bool := (List.range n).map fun i => v.testBit (n - 1 - i)
/-- The first n bytes of a list of bits. -/
def packN (l : List Bool) (n : Nat) : List UInt8 := (List.range n).map fun i => UInt8.ofNat (byteL l i)
/-- A list of bits as bytes. -/
def pack (l : List Bool) : ByteArray := ⟨(packN l ((l.length + 7) / 8)).toArray⟩
/-- A list of bits as characters. -/
def chars (l : List Bool) : ByteArray := ⟨(l.map fun b => if b then (49 : UInt8) else 48).toArray⟩

@[simp] theorem length_bitsOf (n v : Nat) : (bitsOf n v).length = n := by simp [bitsOf]
@[simp] theorem length_packN (l : List Bool) (n : Nat) : (packN l n).length = n := by simp [packN]
@[simp] theorem size_pack (l : List Bool) : (pack l).size = (l.length + 7) / 8 := by simp [pack, ByteArray.size]
@[simp] theorem size_chars (l : List Bool) : (chars l).size = l.length := by simp [chars, ByteArray.size]
theorem byteL_lt (l : List Bool) (i : Nat) : byteL l i < 256 := valF_lt _ _ 8

theorem bitL_append (l m : List Bool) (i : Nat) : bitL (l ++ m) i = if i < l.length then bitL l i else bitL m (i - l.length) := by
  unfold bitL
  by_cases h : i < l.length
  · rw [if_pos h]; simp [List.getD_eq_getElem?_getD, List.getElem?_append_left h]
  · rw [if_neg h]; simp [List.getD_eq_getElem?_getD, List.getElem?_append_right (Nat.le_of_not_lt h)]
theorem bitL_of_le (l : List Bool) (i : Nat) (h : l.length ≤ i) : bitL l i = false := by
  simp [bitL, List.getD_eq_getElem?_getD, List.getElem?_eq_none h]
theorem bitL_bitsOf (n v i : Nat) : bitL (bitsOf n v) i = (decide (i < n) && v.testBit (n - 1 - i)) := by
  by_cases h : i < n
  · simp [bitL, bitsOf, h]
  · rw [bitL_of_le _ _ (by simp; omega)]; simp [h]

/-- What was packed is read. -/
theorem bitAt_pack (l : List Bool) (i : Nat) : bitAt (pack l) i = bitL l i := by
  unfold bitAt
  by_cases h : i / 8 < (l.length + 7) / 8
  · have e : (pack l).data.getD (i / 8) 0 = UInt8.ofNat (byteL l (i / 8)) := by
      have hz : i / 8 < (packN l ((l.length + 7) / 8)).length := by simpa using h
      show ((packN l ((l.length + 7) / 8)).toArray).getD (i / 8) 0 = _
      rw [Array.getD_eq_getD_getElem?]
      simp [packN, h]
    rw [e]
    have h2 : (UInt8.ofNat (byteL l (i / 8))).toNat = byteL l (i / 8) := by
      rw [UInt8.toNat_ofNat']; exact Nat.mod_eq_of_lt (byteL_lt _ _)
    rw [h2]
    unfold byteL
    rw [show 7 - i % 8 = 8 - 1 - i % 8 from rfl, valF_bit _ _ _ _ (by omega)]
    congr 1; omega
  · have e : (pack l).data.getD (i / 8) 0 = 0 := by
      show ((packN l ((l.length + 7) / 8)).toArray).getD (i / 8) 0 = _
      rw [Array.getD_eq_getD_getElem?, Array.getElem?_eq_none (by simp; omega)]; rfl
    rw [e, bitL_of_le _ _ (by omega)]
    simp

/-- What was written with n bits is read as it was. -/
theorem val_bitsOf (n v : Nat) (h : v < 2 ^ n) : valF (bitL (bitsOf n v)) 0 n = v :=
  (eq_valF v _ 0 n h (fun j hj => by rw [Nat.zero_add, bitL_bitsOf]; simp [hj])).symm
theorem val_mid (l m r : List Bool) (n v : Nat) (hm : m = bitsOf n v) (h : v < 2 ^ n) : valF (bitL (l ++ (m ++ r))) l.length n = v := by
  subst hm
  rw [← val_bitsOf n v h]
  rw [val_bitsOf n v h]
  refine Eq.trans (valF_congr (g := bitL (bitsOf n v)) (q := 0) fun j hj => ?_) (val_bitsOf n v h)
  rw [bitL_append, if_neg (by omega), show l.length + j - l.length = j from by omega, bitL_append, if_pos (by simpa using hj), Nat.zero_add]
end Go.Proofs.YtdkmeldcpamnnaaDoor
