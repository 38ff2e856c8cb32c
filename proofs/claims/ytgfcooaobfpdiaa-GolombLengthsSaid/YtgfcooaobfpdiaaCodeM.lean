/- The code of a valid call: what is written is read; none begins with another one. -/
import Derived.Test.YtgfcooaobfpdiaaFit2
namespace Go.Proofs.Ytgfcooaobfpdiaa
open Go.RowKit
set_option linter.unusedVariables false

def teBits (m v : Nat) : List Bool := if m = 0 then [] else if m = 1 then bitsOf 1 (1 - v) else ueBits v
/-- The code of a valid call. -/
def codeOf (c m k v : Nat) : List Bool := if c % 4 = 0 then ueBits v else if c % 4 = 1 then ueBits (seNum ((v : Int) - 2147483647)) else if c % 4 = 2 then teBits m v else ukBits k v
/-- The call is valid. -/
structure OkV (c m k v : Nat) : Prop where
  mm : m ≤ 4294967294
  kk : k ≤ 8
  ue : c % 4 ≤ 1 → v ≤ 4294967294
  te : c % 4 = 2 → v ≤ m
  uk : c % 4 = 3 → v / 2 ^ k ≤ 4294967294
theorem OkV.of_fit (c m k v : Nat) (hm : m ≤ 4294967294) (hk : k ≤ 8) : OkV c m k (fitV c m k v) := by
  refine ⟨hm, hk, fun h => ?_, fun h => ?_, fun h => ?_⟩
  · unfold fitV; rw [if_pos (by omega)]; omega
  · unfold fitV; rw [if_neg (by omega), if_pos h]
    have := Nat.mod_lt v (show 0 < m + 1 by omega); omega
  · unfold fitV; rw [if_neg (by omega), if_neg (by omega)]
    have p0 : 0 < 2 ^ k := Nat.pow_pos (by omega)
    have h1 := Nat.mod_lt v (show 0 < 4294967295 * 2 ^ k by omega)
    have := (Nat.div_lt_iff_lt_mul p0).2 h1
    exact Nat.le_of_lt_succ this
theorem OkV.lt64 {c m k v : Nat} (h : OkV c m k v) : v < 18446744073709551616 := by
  have hc : c % 4 ≤ 1 ∨ c % 4 = 2 ∨ c % 4 = 3 := by omega
  rcases hc with e | e | e
  · have := h.ue e; omega
  · have := h.te e; have := h.mm; omega
  · have h1 := h.uk e
    have p8 : 2 ^ k ≤ 2 ^ 8 := Nat.pow_le_pow_right (by omega) h.kk
    have p8' : (2 : Nat) ^ 8 = 256 := by decide
    have p0 : 0 < 2 ^ k := Nat.pow_pos (by omega)
    have h2 : v < (4294967294 + 1) * 2 ^ k := (Nat.div_lt_iff_lt_mul p0).1 (by omega)
    have h3 : (4294967294 + 1) * 2 ^ k ≤ (4294967294 + 1) * 256 := Nat.mul_le_mul_left _ (by omega)
    omega

theorem seNum_le (v : Nat) (h : v ≤ 4294967294) : seNum ((v : Int) - 2147483647) ≤ 4294967294 := by unfold seNum; split <;> omega
theorem se_back (v : Nat) (h : v ≤ 4294967294) : seVal (seNum ((v : Int) - 2147483647)) = (v : Int) - 2147483647 := by
  unfold seNum seVal
  split <;> split <;> omega

theorem codeOf_le {c m k v : Nat} (h : OkV c m k v) : (codeOf c m k v).length ≤ 71 := by
  unfold codeOf
  split
  · have := ueBits_le v (by have := h.ue (by omega); omega); omega
  · split
    · have := ueBits_le (seNum ((v : Int) - 2147483647)) (by have := seNum_le v (h.ue (by omega)); omega); omega
    · split
      · unfold teBits
        split
        · simp
        · split
          · simp
          · have := ueBits_le v (by have := h.te (by omega); have := h.mm; omega); omega
      · exact ukBits_le k v h.kk (by have := h.uk (by omega); exact Nat.lt_succ_of_le this)

/-- What is read for a call. -/
def rdC (s : ByteArray) (pos c m k : Nat) : Int × Int × Nat :=
  if c % 4 = 0 then ((rdUk s pos 0).1, (rdUk s pos 0).2.1, (rdUk s pos 0).2.2)
  else if c % 4 = 1 then (seVal (rdUk s pos 0).1 + 2147483647, (rdUk s pos 0).2.1, (rdUk s pos 0).2.2)
  else if c % 4 = 2 then ((rdTe s pos m).1, (rdTe s pos m).2.1, (rdTe s pos m).2.2)
  else ((rdUk s pos k).1, (rdUk s pos k).2.1, (rdUk s pos k).2.2)

theorem read_ue {s : ByteArray} {pos v : Nat} (hv : v ≤ 4294967294) (h : Begins s pos (ueBits v)) : rdUk s pos 0 = (v, 0, pos + (ueBits v).length) := by
  have := read_uk (s := s) (pos := pos) (k := 0) (v := v) (by rw [Nat.pow_zero, Nat.div_one]; omega) (by rw [ukBits_zero]; exact h)
  rwa [ukBits_zero] at this
theorem read_te {s : ByteArray} {pos m v : Nat} (hm : m ≤ 4294967294) (hv : v ≤ m) (h : Begins s pos (teBits m v)) : rdTe s pos m = (v, 0, pos + (teBits m v).length) := by
  unfold rdTe
  rw [if_neg (by omega)]
  unfold teBits at h ⊢
  by_cases h0 : m = 0
  · rw [if_pos h0, if_pos h0]
    obtain rfl : v = 0 := by omega
    rfl
  · rw [if_neg h0] at h
    rw [if_neg h0, if_neg h0]
    by_cases h1 : m = 1
    · rw [if_pos h1] at h
      rw [if_pos h1, if_pos h1]
      have hl := h.1
      rw [length_bitsOf] at hl
      have e : rdU s pos 1 = (1 - v, 0, pos + 1) := by
        have hb := h.val (by omega)
        unfold rdU
        rw [if_neg (by omega), if_neg (by simp; omega)]
        rw [show (1 : Int).toNat = 1 from rfl, hb]
      rw [e]
      simp only [ne_eq, not_true_eq_false, if_false, length_bitsOf]
      rw [show 1 - (1 - v) = v from by omega]
    · rw [if_neg h1] at h
      rw [if_neg h1, if_neg h1, read_ue (by omega) h]
      simp only [ne_eq, not_true_eq_false, if_false]
      rw [if_neg (by omega)]
theorem read_code {s : ByteArray} {pos c m k v : Nat} (ok : OkV c m k v) (h : Begins s pos (codeOf c m k v)) : rdC s pos c m k = ((v : Int), 0, pos + (codeOf c m k v).length) := by
  unfold rdC
  unfold codeOf at h ⊢
  by_cases c0 : c % 4 = 0
  · rw [if_pos c0] at h
    rw [if_pos c0, if_pos c0, read_ue (ok.ue (by omega)) h]
  · rw [if_neg c0] at h
    rw [if_neg c0, if_neg c0]
    by_cases c1 : c % 4 = 1
    · rw [if_pos c1] at h
      rw [if_pos c1, if_pos c1, read_ue (seNum_le v (ok.ue (by omega))) h]
      simp only
      rw [se_back v (ok.ue (by omega))]
      simp only [Prod.mk.injEq, and_true]
      omega
    · rw [if_neg c1] at h
      rw [if_neg c1, if_neg c1]
      by_cases c2 : c % 4 = 2
      · rw [if_pos c2] at h
        rw [if_pos c2, if_pos c2, read_te ok.mm (ok.te c2) h]
      · rw [if_neg c2] at h
        rw [if_neg c2, if_neg c2, read_uk (Nat.lt_succ_of_le (ok.uk (by omega))) h]

theorem begins_pack (l : List Bool) (p r : List Bool) : Begins (pack (p ++ (l ++ r))) p.length l := by
  refine ⟨?_, fun j hj => ?_⟩
  · rw [size_pack]; simp only [List.length_append]; omega
  · rw [bitAt_pack, bitL_append, if_neg (by omega), bitL_append, if_pos (by omega)]; congr 1; omega
/-- No code begins with another one. -/
theorem code_apart {c m k v v' : Nat} (ok : OkV c m k v) (ok' : OkV c m k v') (hne : v ≠ v') : ¬ codeOf c m k v' <+: codeOf c m k v := by
  rintro ⟨r, hr⟩
  have b1 := begins_pack (codeOf c m k v) [] []
  have b2 := begins_pack (codeOf c m k v') [] r
  rw [hr] at b2
  rw [List.append_nil] at b1
  have e1 := read_code ok b1
  have e2 := read_code ok' b2
  rw [e1] at e2
  simp only [Prod.mk.injEq] at e2
  omega
end Go.Proofs.Ytgfcooaobfpdiaa
