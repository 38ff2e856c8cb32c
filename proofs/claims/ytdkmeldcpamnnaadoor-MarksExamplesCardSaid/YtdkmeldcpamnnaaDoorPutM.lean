/- What Put of a writer reckons: plain facts on numbers. -/
import Derived.Test.YtdkmeldcpamnnaaDoorPack
namespace Go.Proofs.YtdkmeldcpamnnaaDoor
set_option linter.unusedVariables false

/-- The number v as Put holds it ahead of its byte i (from 1 on). -/
def vAt (n m v i : Nat) : Nat := v * 2 ^ (64 - n + (8 - m) + 8 * (i - 1)) % 2 ^ 64

theorem vAt_lt (n m v i : Nat) : vAt n m v i < 2 ^ 64 := Nat.mod_lt _ (Nat.pow_pos (by omega))
theorem wrap_mod (a : Nat) : IntKind.u64.wrap (a : Int) = ((a % 2 ^ 64 : Nat) : Int) := by
  rw [IntKind.wrap_u64]; have : (2 : Nat) ^ 64 = 18446744073709551616 := by decide
  rw [this]; omega
theorem mul_cast (a k : Nat) : (a : Int) * 2 ^ k = ((a * 2 ^ k : Nat) : Int) := by rw [Int.natCast_mul, Int.natCast_pow]; rfl
theorem div_cast (a k : Nat) : (a : Int) / 2 ^ k = ((a / 2 ^ k : Nat) : Int) := by rw [Int.natCast_ediv, Int.natCast_pow]; rfl
theorem x_lt {n v : Nat} (hn : n ≤ 64) (hv : v < 2 ^ n) : v * 2 ^ (64 - n) < 2 ^ 64 := by
  have h : v * 2 ^ (64 - n) < 2 ^ n * 2 ^ (64 - n) := Nat.mul_lt_mul_of_pos_right hv (Nat.pow_pos (by omega))
  rw [← Nat.pow_add, show n + (64 - n) = 64 from by omega] at h
  exact h
theorem wrap_x {n v : Nat} (hn : n ≤ 64) (hv : v < 2 ^ n) : IntKind.u64.wrap ((v : Int) * 2 ^ (64 - n)) = ((v * 2 ^ (64 - n) : Nat) : Int) := by
  rw [mul_cast, wrap_mod, Nat.mod_eq_of_lt (x_lt hn hv)]
theorem v_first {n v m : Nat} (hn : n ≤ 64) (hv : v < 2 ^ n) : IntKind.u64.wrap (IntKind.u64.wrap ((v : Int) * 2 ^ (64 - n)) * 2 ^ (8 - m)) = ((vAt n m v 1 : Nat) : Int) := by
  rw [wrap_x hn hv, mul_cast, wrap_mod]
  unfold vAt
  rw [Nat.mul_assoc, ← Nat.pow_add]
  rfl
theorem v_next {n v m i : Nat} (hi : 1 ≤ i) : vAt n m v i * 2 ^ 8 % 2 ^ 64 = vAt n m v (i + 1) := by
  unfold vAt
  rw [Nat.mod_mul_mod, Nat.mul_assoc, ← Nat.pow_add]
  congr 3
  omega
theorem bit_shl (v e t : Nat) : (v * 2 ^ e).testBit t = (decide (e ≤ t) && v.testBit (t - e)) := by
  rw [← Nat.shiftLeft_eq, Nat.testBit_shiftLeft]

/-- The byte i of what is written, from the second one on. -/
theorem y_next {n v m i q : Nat} {l : List Bool} (hl : l.length = 8 * q + m) (hm : m < 8) (hn : n ≤ 64) (hi : 1 ≤ i) : vAt n m v i / 2 ^ 56 = byteL (l ++ bitsOf n v) (q + i) := by
  unfold byteL
  refine eq_valF _ _ _ _ ?_ fun j hj => ?_
  · have := vAt_lt n m v i
    exact (Nat.div_lt_iff_lt_mul (Nat.pow_pos (by omega))).2 (by rw [← Nat.pow_add]; exact this)
  · rw [← Nat.shiftRight_eq_div_pow, Nat.testBit_shiftRight]
    unfold vAt
    rw [Nat.testBit_mod_two_pow, bit_shl, bitL_append, if_neg (by omega), bitL_bitsOf]
    have e1 : 56 + (8 - 1 - j) < 64 := by omega
    by_cases h : 8 * (q + i) + j - l.length < n
    · have e2 : 64 - n + (8 - m) + 8 * (i - 1) ≤ 56 + (8 - 1 - j) := by omega
      have e3 : 56 + (8 - 1 - j) - (64 - n + (8 - m) + 8 * (i - 1)) = n - 1 - (8 * (q + i) + j - l.length) := by omega
      simp only [e1, e2, h, e3, decide_true, Bool.true_and]
    · have e2 : ¬ 64 - n + (8 - m) + 8 * (i - 1) ≤ 56 + (8 - 1 - j) := by omega
      simp only [e2, h, decide_false, Bool.false_and, Bool.and_false]

/-- The first byte of what is written. -/
theorem y_first {n v m q : Nat} {l : List Bool} (hl : l.length = 8 * q + m) (hm : m < 8) (hn : n ≤ 64) (hv : v < 2 ^ n) :
    byteL l q ||| (v * 2 ^ (64 - n) / 2 ^ (56 + m)) = byteL (l ++ bitsOf n v) q := by
  have hx := x_lt hn hv
  have hy : v * 2 ^ (64 - n) / 2 ^ (56 + m) < 2 ^ 8 :=
    (Nat.div_lt_iff_lt_mul (Nat.pow_pos (by omega))).2 (Nat.lt_of_lt_of_le hx (by rw [← Nat.pow_add]; exact Nat.pow_le_pow_right (by omega) (by omega)))
  show _ = valF (bitL (l ++ bitsOf n v)) (8 * q) 8
  refine eq_valF _ _ _ _ (Nat.or_lt_two_pow (valF_lt _ _ 8) hy) fun j hj => ?_
  rw [Nat.testBit_or, show byteL l q = valF (bitL l) (8 * q) 8 from rfl, valF_bit _ _ _ _ hj, ← Nat.shiftRight_eq_div_pow, Nat.testBit_shiftRight, bitL_append]
  by_cases h : j < m
  · rw [if_pos (by omega), Nat.testBit_lt_two_pow (Nat.lt_of_lt_of_le hx (Nat.pow_le_pow_right (by omega) (by omega))), Bool.or_false]
  · rw [if_neg (by omega), bitL_of_le l _ (by omega), Bool.false_or, bit_shl, bitL_bitsOf]
    by_cases h2 : 8 * q + j - l.length < n
    · have e2 : 64 - n ≤ 56 + m + (8 - 1 - j) := by omega
      have e3 : 56 + m + (8 - 1 - j) - (64 - n) = n - 1 - (8 * q + j - l.length) := by omega
      simp only [e2, h2, e3, decide_true, Bool.true_and]
    · have e2 : ¬ 64 - n ≤ 56 + m + (8 - 1 - j) := by omega
      simp only [e2, h2, decide_false, Bool.false_and]
theorem y_first_int {n v m q : Nat} {l : List Bool} (hl : l.length = 8 * q + m) (hm : m < 8) (hn : n ≤ 64) (hv : v < 2 ^ n) :
    bits .or .u8 (byteL l q : Int) (IntKind.u64.wrap ((v : Int) * 2 ^ (64 - n)) / 2 ^ (56 + m) % 256) = (byteL (l ++ bitsOf n v) q : Int) := by
  have hx := x_lt hn hv
  have hy : v * 2 ^ (64 - n) / 2 ^ (56 + m) < 256 :=
    (Nat.div_lt_iff_lt_mul (Nat.pow_pos (by omega))).2 (Nat.lt_of_lt_of_le hx (by rw [show 256 = 2 ^ 8 from rfl, ← Nat.pow_add]; exact Nat.pow_le_pow_right (by omega) (by omega)))
  have hf := y_first hl hm hn hv
  rw [wrap_x hn hv, div_cast]
  generalize v * 2 ^ (64 - n) / 2 ^ (56 + m) = y at *
  rw [Int.emod_eq_of_lt (by omega) (by omega), u8_or_nat _ _ (byteL_lt _ _) hy, hf]

theorem byteL_append (l r : List Bool) (i : Nat) (h : 8 * i + 8 ≤ l.length) : byteL (l ++ r) i = byteL l i :=
  valF_congr fun j hj => by rw [bitL_append, if_pos (by omega)]
theorem packN_append (l r : List Bool) (q k : Nat) (h : 8 * q ≤ l.length) : packN (l ++ r) (q + k) = packN l q ++ (List.range k).map fun j => UInt8.ofNat (byteL (l ++ r) (q + j)) := by
  unfold packN
  rw [List.range_add, List.map_append, List.map_map]
  congr 1
  refine List.map_congr_left fun i hi => ?_
  rw [byteL_append l r i (by have := List.mem_range.1 hi; omega)]
end Go.Proofs.YtdkmeldcpamnnaaDoor
