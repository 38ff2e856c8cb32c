/- Plain facts on Exp-Golomb codes: what is read from bits, what is written. -/
import Derived.Test.YtjjjfmnhdnajkaaGreatDoorMg1
import Derived.Lib.BitFns
import Derived.Lib.ItoaNum
namespace Go.Proofs.YtjjjfmnhdnajkaaGreatDoor
set_option linter.unusedVariables false

/-- How many zeros are before the next bit 1, with at most so many: the number, and the error (4: too many; 5: the bits end). -/
def lead (s : ByteArray) (pos : Nat) : Nat → Nat × Int
  | 0 => (0, 4)
  | f + 1 => if 8 * s.size ≤ pos then (0, 5) else if bitAt s pos then (0, 0) else ((lead s (pos + 1) f).1 + 1, (lead s (pos + 1) f).2)

theorem lead_err (s : ByteArray) (pos f : Nat) : (lead s pos f).2 = 0 ∨ (lead s pos f).2 = 4 ∨ (lead s pos f).2 = 5 := by
  induction f generalizing pos with
  | zero => simp [lead]
  | succ f ih =>
    unfold lead
    split
    · simp
    · split
      · simp
      · exact ih _
theorem lead_yes {s : ByteArray} {pos f : Nat} (h : (lead s pos f).2 = 0) : (∀ j, j < (lead s pos f).1 → bitAt s (pos + j) = false) ∧ bitAt s (pos + (lead s pos f).1) = true ∧ (lead s pos f).1 < f ∧ pos + (lead s pos f).1 < 8 * s.size := by
  induction f generalizing pos with
  | zero => simp [lead] at h
  | succ f ih =>
    unfold lead at h ⊢
    split at h
    · simp at h
    · rename_i h1
      split at h
      · rename_i h2
        rw [if_neg h1, if_pos h2]
        exact ⟨fun j hj => absurd hj (Nat.not_lt_zero _), by simpa using h2, by simp, by simp; omega⟩
      · rename_i h2
        rw [if_neg h1, if_neg h2]
        obtain ⟨a, b, c, d⟩ := ih h
        refine ⟨fun j hj => ?_, by rw [← b]; congr 1; simp only; omega, by simp only; omega, by simp only; omega⟩
        simp only at hj
        cases j with
        | zero => simpa using h2
        | succ j => rw [← a j (by omega)]; congr 1; omega

theorem valOf_zeros (s : ByteArray) (pos n : Nat) (h : ∀ j, j < n → bitAt s (pos + j) = false) : valOf s pos n = 0 := by
  induction n with
  | zero => rfl
  | succ n ih => simp only [valOf]; rw [ih (fun j hj => h j (by omega)), h n (by omega)]; rfl
/-- The bits of a code as one number. -/
theorem valOf_code {s : ByteArray} {pos f : Nat} (h : (lead s pos f).2 = 0) (m : Nat) : valOf s pos ((lead s pos f).1 + (1 + m)) = 2 ^ m + valOf s (pos + (lead s pos f).1 + 1) m := by
  obtain ⟨a, b, _, _⟩ := lead_yes h
  rw [valOf_add, valOf_zeros s pos _ a, Nat.zero_mul, Nat.zero_add, valOf_add]
  congr 1
  simp only [valOf, Nat.add_zero, Nat.mul_zero, Nat.zero_add]
  rw [b]; simp

/-- What is read of a code of order k: the number, the error, the place behind it. -/
def rdUk (s : ByteArray) (pos k : Nat) : Nat × Int × Nat :=
  if (lead s pos 32).2 ≠ 0 then (0, (lead s pos 32).2, pos) else if 8 * s.size < pos + (2 * (lead s pos 32).1 + 1 + k) then (0, 5, pos)
  else ((valOf s pos (2 * (lead s pos 32).1 + 1) - 1) * 2 ^ k + valOf s (pos + (2 * (lead s pos 32).1 + 1)) k, 0, pos + (2 * (lead s pos 32).1 + 1 + k))

theorem rdUk_lt (s : ByteArray) (pos k : Nat) : (rdUk s pos k).1 < 2 ^ (32 + k) := by
  unfold rdUk
  have p : 0 < 2 ^ (32 + k) := Nat.pow_pos (by omega)
  split
  · exact p
  · rename_i h
    split
    · exact p
    · obtain ⟨_, _, c, _⟩ := lead_yes (s := s) (pos := pos) (f := 32) (by simpa using h)
      have e := valOf_code (s := s) (pos := pos) (f := 32) (by simpa using h) (lead s pos 32).1
      rw [show (lead s pos 32).1 + (1 + (lead s pos 32).1) = 2 * (lead s pos 32).1 + 1 from by omega] at e
      simp only
      rw [e]
      have h1 := valOf_lt s (pos + (lead s pos 32).1 + 1) (lead s pos 32).1
      have h2 := valOf_lt s (pos + (2 * (lead s pos 32).1 + 1)) k
      have h3 : 2 ^ (lead s pos 32).1 ≤ 2 ^ 31 := Nat.pow_le_pow_right (by omega) (by omega)
      have h4 : (2 : Nat) ^ 31 = 2147483648 := by decide
      have h5 : 2 ^ (32 + k) = 4294967296 * 2 ^ k := by rw [Nat.pow_add]
      rw [h5]
      generalize 2 ^ (lead s pos 32).1 = A at *
      generalize valOf s (pos + (lead s pos 32).1 + 1) (lead s pos 32).1 = B at *
      generalize valOf s (pos + (2 * (lead s pos 32).1 + 1)) k = C at *
      have h6 : (A + B - 1) * 2 ^ k + 2 ^ k ≤ 4294967295 * 2 ^ k + 2 ^ k := Nat.add_le_add_right (Nat.mul_le_mul_right _ (by omega)) _
      omega
theorem rdUk_err (s : ByteArray) (pos k : Nat) : (rdUk s pos k).2.1 = 0 ∨ ((rdUk s pos k).1 = 0 ∧ (rdUk s pos k).2.2 = pos ∧ ((rdUk s pos k).2.1 = 4 ∨ (rdUk s pos k).2.1 = 5)) := by
  unfold rdUk
  split
  · rename_i h
    rcases lead_err s pos 32 with e | e
    · exact absurd e h
    · exact .inr ⟨rfl, rfl, e⟩
  · split
    · exact .inr ⟨rfl, rfl, .inr rfl⟩
    · exact .inl rfl
theorem rdUk_le (s : ByteArray) (pos k : Nat) (h : pos ≤ 8 * s.size) : (rdUk s pos k).2.2 ≤ 8 * s.size := by
  unfold rdUk
  split
  · exact h
  · split
    · exact h
    · simp only; omega

/-- What is written. -/
def ueBits (v : Nat) : List Bool := bitsOf (2 * Lib.bitLen (v + 1) - 1) (v + 1)
def ukBits (k v : Nat) : List Bool := ueBits (v / 2 ^ k) ++ bitsOf k (v % 2 ^ k)

theorem bitLen_mid (x : Nat) (h0 : x ≠ 0) (h : x < 2 ^ 32) : 1 ≤ Lib.bitLen x ∧ Lib.bitLen x ≤ 32 ∧ 2 ^ (Lib.bitLen x - 1) ≤ x ∧ x < 2 ^ Lib.bitLen x := by
  have e : Lib.bitLen x = Lib.bitLenAux 32 x := Lib.bitLenAux_fuel 32 x h 64 (by omega)
  obtain ⟨a, b, c⟩ := Lib.bitLenAux_bounds 64 x (Nat.lt_trans h (by decide)) h0
  refine ⟨a, ?_, b, c⟩
  show Lib.bitLenAux 64 x ≤ 32
  have b' : 2 ^ (Lib.bitLenAux 64 x - 1) < 2 ^ 32 := Nat.lt_of_le_of_lt b h
  have := (Nat.pow_lt_pow_iff_right (by omega : 1 < 2)).1 b'
  omega
theorem bitsOf_add (a b v : Nat) : bitsOf (a + b) v = bitsOf a (v / 2 ^ b) ++ bitsOf b v := by
  apply List.ext_getElem
  · simp
  · intro i h1 h2
    simp at h1
    by_cases h : i < a
    · rw [List.getElem_append_left (by simpa using h)]
      simp only [bitsOf, List.getElem_map, List.getElem_range, Nat.testBit_div_two_pow]
      congr 1; omega
    · rw [List.getElem_append_right (by simp; omega)]
      simp only [bitsOf, List.getElem_map, List.getElem_range, List.length_map, List.length_range]
      congr 1; omega
theorem bitsOf_mod (n v : Nat) : bitsOf n (v % 2 ^ n) = bitsOf n v := by
  apply List.ext_getElem
  · simp
  · intro i h1 h2
    simp at h1
    simp only [bitsOf, List.getElem_map, List.getElem_range, Nat.testBit_mod_two_pow]
    simp; omega
theorem bitsOf_small (n v : Nat) (h : v < 2 ^ n) (m : Nat) : bitsOf (m + n) v = bitsOf m 0 ++ bitsOf n v := by
  rw [bitsOf_add, Nat.div_eq_of_lt h]
theorem length_ueBits (v : Nat) : (ueBits v).length = 2 * Lib.bitLen (v + 1) - 1 := length_bitsOf _ _
theorem length_ukBits (k v : Nat) : (ukBits k v).length = 2 * Lib.bitLen (v / 2 ^ k + 1) - 1 + k := by
  unfold ukBits; rw [List.length_append, length_ueBits, length_bitsOf]
theorem ueBits_le (v : Nat) (h : v < 4294967295) : (ueBits v).length ≤ 63 := by
  have := bitLen_mid (v + 1) (by omega) (by have : (2 : Nat) ^ 32 = 4294967296 := by decide
                                            omega)
  rw [length_ueBits]; omega
theorem ukBits_le (k v : Nat) (hk : k ≤ 8) (h : v / 2 ^ k < 4294967295) : (ukBits k v).length ≤ 71 := by
  rw [length_ukBits]
  generalize v / 2 ^ k = x at *
  have := bitLen_mid (x + 1) (by omega) (by have : (2 : Nat) ^ 32 = 4294967296 := by decide
                                            omega)
  omega

/-- Bits of a string that read so. -/
def Begins (s : ByteArray) (pos : Nat) (l : List Bool) : Prop := pos + l.length ≤ 8 * s.size ∧ ∀ j, j < l.length → bitAt s (pos + j) = bitL l j
theorem Begins.left {s : ByteArray} {pos : Nat} {l m : List Bool} (h : Begins s pos (l ++ m)) : Begins s pos l := by
  obtain ⟨h1, h2⟩ := h
  rw [List.length_append] at h1 h2
  exact ⟨by omega, fun j hj => by rw [h2 j (by omega), bitL_append, if_pos hj]⟩
theorem Begins.right {s : ByteArray} {pos : Nat} {l m : List Bool} (h : Begins s pos (l ++ m)) : Begins s (pos + l.length) m := by
  obtain ⟨h1, h2⟩ := h
  rw [List.length_append] at h1 h2
  exact ⟨by omega, fun j hj => by rw [Nat.add_assoc, h2 _ (by omega), bitL_append, if_neg (by omega)]; congr 1; omega⟩
theorem Begins.val {s : ByteArray} {pos n v : Nat} (h : Begins s pos (bitsOf n v)) (hv : v < 2 ^ n) : valOf s pos n = v := by
  obtain ⟨h1, h2⟩ := h
  rw [length_bitsOf] at h2
  rw [valOf_eq, ← val_bitsOf n v hv]
  rw [val_bitsOf n v hv]
  refine Eq.trans (valF_congr (g := bitL (bitsOf n v)) (q := 0) fun j hj => ?_) (val_bitsOf n v hv)
  rw [h2 j hj, Nat.zero_add]
theorem lead_of {s : ByteArray} {pos n f : Nat} (h0 : ∀ j, j < n → bitAt s (pos + j) = false) (h1 : bitAt s (pos + n) = true) (hf : n < f) (hs : pos + n < 8 * s.size) : lead s pos f = (n, 0) := by
  induction f generalizing pos n with
  | zero => omega
  | succ f ih =>
    unfold lead
    rw [if_neg (by omega)]
    cases n with
    | zero => rw [if_pos (by simpa using h1)]
    | succ n =>
      rw [if_neg (by simpa using h0 0 (by omega))]
      rw [ih (n := n) (fun j hj => by rw [Nat.add_assoc, Nat.add_comm 1]; exact h0 (j + 1) (by omega)) (by rw [Nat.add_assoc, Nat.add_comm 1]; exact h1) (by omega) (by omega)]
/-- What was written is read. -/
theorem read_uk {s : ByteArray} {pos k v : Nat} (hv : v / 2 ^ k < 4294967295) (h : Begins s pos (ukBits k v)) : rdUk s pos k = (v, 0, pos + (ukBits k v).length) := by
  have p32 : (2 : Nat) ^ 32 = 4294967296 := by decide
  obtain ⟨a, b, c, d⟩ := bitLen_mid (v / 2 ^ k + 1) (Nat.succ_ne_zero _) (by generalize v / 2 ^ k = x at *; omega)
  have hu : Begins s pos (ueBits (v / 2 ^ k)) := h.left
  have hr := h.right
  have hl := h.1
  rw [length_ukBits] at hl ⊢
  rw [length_ueBits] at hr
  obtain ⟨n, hn⟩ : ∃ n, Lib.bitLen (v / 2 ^ k + 1) = n + 1 := ⟨Lib.bitLen (v / 2 ^ k + 1) - 1, by omega⟩
  have hu' := hu
  unfold ueBits at hu
  rw [hn] at hu hr hl ⊢ c d b
  rw [show 2 * (n + 1) - 1 = 2 * n + 1 from by omega] at hu hr hl ⊢
  have hval := hu.val (by exact Nat.lt_of_lt_of_le d (Nat.pow_le_pow_right (by omega) (by omega)))
  have hbit : ∀ j, j < 2 * n + 1 → bitAt s (pos + j) = (v / 2 ^ k + 1).testBit (2 * n - j) := fun j hj => by
    rw [hu.2 j (by rw [length_bitsOf]; exact hj), bitL_bitsOf, decide_eq_true hj, Bool.true_and]; congr 1
  have hle : lead s pos 32 = (n, 0) := by
    refine lead_of (fun j hj => ?_) ?_ (by omega) (by omega)
    · rw [hbit j (by omega)]
      exact Nat.testBit_lt_two_pow (Nat.lt_of_lt_of_le d (Nat.pow_le_pow_right (by omega) (by omega)))
    · rw [hbit n (by omega), show 2 * n - n = n from by omega, Nat.testBit_eq_decide_div_mod_eq]
      rw [show n + 1 - 1 = n from rfl] at c
      have e : (v / 2 ^ k + 1) / 2 ^ n = 1 := by
        have h1 : 1 ≤ (v / 2 ^ k + 1) / 2 ^ n := (Nat.le_div_iff_mul_le (Nat.pow_pos (by omega))).2 (by omega)
        have h2 : (v / 2 ^ k + 1) / 2 ^ n < 2 := (Nat.div_lt_iff_lt_mul (Nat.pow_pos (by omega))).2 (by rw [Nat.pow_succ] at d; omega)
        omega
      rw [e]; rfl
  unfold rdUk
  rw [hle]
  simp only
  rw [if_neg (by simp), if_neg (by omega), hval, hr.val (Nat.mod_lt _ (Nat.pow_pos (by omega)))]
  have hv2 : (v / 2 ^ k + 1 - 1) * 2 ^ k + v % 2 ^ k = v := by
    rw [Nat.add_sub_cancel, Nat.mul_comm]; exact Nat.div_add_mod _ _
  rw [hv2]
end Go.Proofs.YtjjjfmnhdnajkaaGreatDoor
