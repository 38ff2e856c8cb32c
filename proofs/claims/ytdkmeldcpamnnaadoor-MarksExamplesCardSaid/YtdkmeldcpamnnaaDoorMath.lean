/- Plain facts on the bits of a string. -/
import Derived.Test.YtdkmeldcpamnnaaDoorObj
import Derived.Laws.BitsAllLaws
import Derived.Laws.Bits64
namespace Go.Proofs.YtdkmeldcpamnnaaDoor

theorem valOf_byte (s : ByteArray) (pos k : Nat) (h : pos % 8 + k ≤ 8) : valOf s pos k = ((s.data.getD (pos / 8) 0).toNat / 2 ^ (8 - pos % 8 - k)) % 2 ^ k := by
  induction k with
  | zero => simp [valOf, Nat.mod_one]
  | succ k ih =>
    have e1 : (pos + k) / 8 = pos / 8 := by omega
    have e2 : (pos + k) % 8 = pos % 8 + k := by omega
    simp only [valOf, bitAt, ih (by omega), e1, e2]
    obtain ⟨t, ht⟩ : ∃ t, t = 8 - pos % 8 - (k + 1) := ⟨_, rfl⟩
    rw [show 8 - pos % 8 - k = t + 1 from by omega, ← ht, show 7 - (pos % 8 + k) = t from by omega, Nat.testBit_eq_decide_div_mod_eq, Nat.pow_succ 2 t, ← Nat.div_div_eq_div_mul, Nat.pow_succ, Nat.mul_comm (2 ^ k) 2, Nat.mod_mul]
    have : ((s.data.getD (pos / 8) 0).toNat / 2 ^ t) % 2 < 2 := Nat.mod_lt _ (by omega)
    generalize (s.data.getD (pos / 8) 0).toNat / 2 ^ t = y at *
    by_cases hy : y % 2 = 1
    · simp [hy]; omega
    · have : y % 2 = 0 := by omega
      simp [this]

theorem valOf_add (s : ByteArray) (pos a b : Nat) : valOf s pos (a + b) = valOf s pos a * 2 ^ b + valOf s (pos + a) b := by
  induction b with
  | zero => simp [valOf]
  | succ b ih => rw [← Nat.add_assoc]; simp only [valOf, ih, Nat.pow_succ]; rw [Nat.add_assoc pos a b]; generalize valOf s pos a = x; generalize valOf s (pos + a) b = y; rw [← Nat.mul_assoc]; generalize x * 2 ^ b = z; omega

theorem shl_shr (x p k : Nat) (h : p + k ≤ 8) : x * 2 ^ p % 256 / 2 ^ (8 - k) = x / 2 ^ (8 - p - k) % 2 ^ k := by
  apply Nat.eq_of_testBit_eq
  intro i
  rw [show (256 : Nat) = 2 ^ 8 from rfl, ← Nat.shiftLeft_eq, ← Nat.shiftRight_eq_div_pow, ← Nat.shiftRight_eq_div_pow]
  simp only [Nat.testBit_shiftRight, Nat.testBit_mod_two_pow, Nat.testBit_shiftLeft]
  by_cases hi : i < k
  · have a1 : 8 - k + i < 8 := by omega
    have a2 : p ≤ 8 - k + i := by omega
    have a3 : 8 - k + i - p = 8 - p - k + i := by omega
    simp [hi, a1, a2, a3]
  · have a1 : ¬ 8 - k + i < 8 := by omega
    simp [hi, a1]

/-- What the program reckons of a byte is the number of its bits. -/
theorem next_val (s : ByteArray) (pos k : Nat) (h : pos % 8 + k ≤ 8) : (s.data.getD (pos / 8) 0).toNat * 2 ^ (pos % 8) % 256 / 2 ^ (8 - k) = valOf s pos k := by
  rw [valOf_byte s pos k h, shl_shr _ _ _ h]

theorem or_add (v x k : Nat) (hx : x < 2 ^ k) : (v * 2 ^ k) ||| x = v * 2 ^ k + x := by
  rw [← Nat.shiftLeft_eq, Nat.shiftLeft_add_eq_or_of_lt hx]
theorem wrap_nat (a : Nat) (h : a < 2 ^ 64) : IntKind.u64.wrap (a : Int) = (a : Int) := by
  rw [IntKind.wrap_u64]; have : (2 : Nat) ^ 64 = 18446744073709551616 := by decide
  omega
theorem pow_le64 {j : Nat} (h : j ≤ 64) : 2 ^ j ≤ 2 ^ 64 := Nat.pow_le_pow_right (by omega) h
/-- What the program reckons of v shifted by k, or x. -/
theorem or_val (v x j k : Nat) (hv : v < 2 ^ j) (hx : x < 2 ^ k) (h : j + k ≤ 64) :
    bits .or .u64 (IntKind.u64.wrap ((v : Int) * 2 ^ k)) (IntKind.u64.wrap (x : Int)) = ((v * 2 ^ k + x : Nat) : Int) := by
  have h1 : v * 2 ^ k < 2 ^ (j + k) := by rw [Nat.pow_add]; exact Nat.mul_lt_mul_of_pos_right hv (Nat.pow_pos (by omega))
  have h2 := pow_le64 h
  have h3 := pow_le64 (show k ≤ 64 by omega)
  have e : ((v : Int) * 2 ^ k) = ((v * 2 ^ k : Nat) : Int) := by rw [Int.natCast_mul, Int.natCast_pow]; rfl
  have h4 : (2 : Nat) ^ 64 = 18446744073709551616 := by decide
  rw [e, wrap_nat _ (by omega), wrap_nat _ (by omega), u64_or_nat _ _ (by omega) (by omega), or_add _ _ _ hx]
theorem getD_at (s : ByteArray) (i : Nat) (h : i < s.size) : s.data.getD i 0 = s[i] := by
  have hz : i < s.data.size := h
  rw [Array.getD_eq_getD_getElem?, Array.getElem?_eq_getElem hz]; rfl
/-- A bit of a byte, as the reference reckons it. -/
theorem bit_num (x t : Nat) (hx : x < 256) : bits .and .u8 ((x : Int) / 2 ^ t) 1 = ((x.testBit t).toNat : Int) := by
  have e : ((x : Int) / 2 ^ t) = ((x / 2 ^ t : Nat) : Int) := by rw [Int.natCast_ediv, Int.natCast_pow]; rfl
  have h : x / 2 ^ t < 256 := Nat.lt_of_le_of_lt (Nat.div_le_self _ _) hx
  rw [e, show (1 : Int) = ((1 : Nat) : Int) from rfl, u8_and_nat _ _ h (by omega), nat_mask1, Nat.toNat_testBit]
/-- A bit more of a number, as the reference reckons it. -/
theorem bit_more (s : ByteArray) (q v j : Nat) (hv : v < 2 ^ j) (hj : j < 64) (h : q / 8 < s.size) :
    IntKind.u64.wrap (IntKind.u64.wrap (2 * (v : Int)) + IntKind.u64.wrap (bits .and .u8 (((s[q / 8]'h).toNat : Int) / 2 ^ (7 - q % 8)) 1)) = ((2 * v + (bitAt s q).toNat : Nat) : Int) := by
  have h1 : 2 ^ (j + 1) ≤ 2 ^ 64 := pow_le64 (by omega)
  have h4 : (2 : Nat) ^ 64 = 18446744073709551616 := by decide
  rw [Nat.pow_succ] at h1
  rw [bit_num _ _ (UInt8.toNat_lt _), ← getD_at s (q / 8) h, show ((s.data.getD (q / 8) 0).toNat.testBit (7 - q % 8)) = bitAt s q from rfl]
  have h5 : (bitAt s q).toNat ≤ 1 := Bool.toNat_le _
  rw [IntKind.wrap_u64, IntKind.wrap_u64, IntKind.wrap_u64]
  omega
end Go.Proofs.YtdkmeldcpamnnaaDoor
