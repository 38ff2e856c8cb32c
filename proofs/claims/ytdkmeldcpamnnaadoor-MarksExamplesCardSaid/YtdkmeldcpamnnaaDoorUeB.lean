/- Plain facts on codes for the later layers: what is read by ue has the bits of its code; strings of bits as characters. -/
import Derived.Test.YtdkmeldcpamnnaaDoorUw
namespace Go.Proofs.YtdkmeldcpamnnaaDoor
set_option linter.unusedVariables false

theorem lead_form {s : ByteArray} {pos f : Nat} : (lead s pos f).2 = 5 → (lead s pos f).1 < f ∧ 8 * s.size ≤ pos + (lead s pos f).1 := by
  induction f generalizing pos with
  | zero => simp [lead]
  | succ f ih =>
    unfold lead
    split
    · simp; omega
    · split
      · simp
      · intro h
        have := ih (pos := pos + 1) h
        simp only
        omega
theorem lead_end {s : ByteArray} {pos f : Nat} : (lead s pos f).2 = 5 → pos ≤ 8 * s.size → pos + (lead s pos f).1 = 8 * s.size := by
  induction f generalizing pos with
  | zero => simp [lead]
  | succ f ih =>
    unfold lead
    split
    · intro _ h; simp; omega
    · split
      · simp
      · intro h hp
        have := ih (pos := pos + 1) h (by omega)
        simp only
        omega
theorem lead_four {s : ByteArray} {pos f : Nat} : (lead s pos f).2 = 4 → (lead s pos f).1 = f := by
  induction f generalizing pos with
  | zero => simp [lead]
  | succ f ih =>
    unfold lead
    split
    · simp
    · split
      · simp
      · intro h
        have := ih (pos := pos + 1) h
        simp only
        omega
/-- What the bits say of the next code. -/
theorem lead_cases (s : ByteArray) (pos : Nat) (h : pos ≤ 8 * s.size) :
    (∃ n, (lead s pos 32).1 = n ∧ n ≤ 31 ∧ 8 * s.size < pos + (2 * n + 1) ∧ rdUk s pos 0 = (0, 5, pos)) ∨ ((lead s pos 32).1 = 32 ∧ rdUk s pos 0 = (0, 4, pos)) ∨
    (∃ n x, (lead s pos 32).1 = n ∧ n ≤ 31 ∧ pos + (2 * n + 1) ≤ 8 * s.size ∧ x ≤ 4294967294 ∧ rdUk s pos 0 = (x, 0, pos + (2 * n + 1)) ∧ (ueBits x).length = 2 * n + 1 ∧ ∀ j, j < 2 * n + 1 → bitL (ueBits x) j = bitAt s (pos + j)) := by
  rcases lead_err s pos 32 with e | e | e
  · obtain ⟨_, _, c, d⟩ := lead_yes e
    by_cases h1 : 8 * s.size < pos + (2 * (lead s pos 32).1 + 1)
    · exact .inl ⟨_, rfl, by omega, h1, by unfold rdUk; rw [if_neg (by simp [e]), if_pos (by omega)]⟩
    · refine .inr (.inr ⟨(lead s pos 32).1, valOf s pos (2 * (lead s pos 32).1 + 1) - 1, rfl, by omega, by omega, ?_, ?_, ?_⟩)
      · have ev := valOf_code e (lead s pos 32).1
        rw [show (lead s pos 32).1 + (1 + (lead s pos 32).1) = 2 * (lead s pos 32).1 + 1 from by omega] at ev
        rw [ev]
        have := valOf_lt s (pos + (lead s pos 32).1 + 1) (lead s pos 32).1
        have : 2 ^ (lead s pos 32).1 ≤ 2 ^ 31 := Nat.pow_le_pow_right (by omega) (by omega)
        have : (2 : Nat) ^ 31 = 2147483648 := by decide
        omega
      · unfold rdUk
        rw [if_neg (by simp [e]), if_neg (by omega)]
        simp [valOf]
      · have ev := valOf_code e (lead s pos 32).1
        rw [show (lead s pos 32).1 + (1 + (lead s pos 32).1) = 2 * (lead s pos 32).1 + 1 from by omega] at ev
        have hl := valOf_lt s (pos + (lead s pos 32).1 + 1) (lead s pos 32).1
        have hp : 2 ^ (lead s pos 32).1 ≤ 2 ^ 31 := Nat.pow_le_pow_right (by omega) (by omega)
        have hp0 : 0 < 2 ^ (lead s pos 32).1 := Nat.pow_pos (by omega)
        have p31 : (2 : Nat) ^ 31 = 2147483648 := by decide
        have p32 : (2 : Nat) ^ 32 = 4294967296 := by decide
        have hx1 : valOf s pos (2 * (lead s pos 32).1 + 1) - 1 + 1 = valOf s pos (2 * (lead s pos 32).1 + 1) := by omega
        have hlen : Lib.bitLen (valOf s pos (2 * (lead s pos 32).1 + 1)) = (lead s pos 32).1 + 1 := by
          obtain ⟨b1, b2, b3, b4⟩ := bitLen_mid (valOf s pos (2 * (lead s pos 32).1 + 1)) (by omega) (by omega)
          generalize Lib.bitLen (valOf s pos (2 * (lead s pos 32).1 + 1)) = L at *
          have g1 : 2 ^ (lead s pos 32).1 < 2 ^ L := Nat.lt_of_le_of_lt (by omega) b4
          have g2 : 2 ^ (L - 1) < 2 ^ ((lead s pos 32).1 + 1) := Nat.lt_of_le_of_lt b3 (by rw [ev, Nat.pow_succ]; omega)
          have g1' := (Nat.pow_lt_pow_iff_right (by omega : 1 < 2)).1 g1
          have g2' := (Nat.pow_lt_pow_iff_right (by omega : 1 < 2)).1 g2
          omega
        unfold ueBits
        rw [hx1, hlen, show 2 * ((lead s pos 32).1 + 1) - 1 = 2 * (lead s pos 32).1 + 1 from by omega]
        refine ⟨length_bitsOf _ _, fun j hj => ?_⟩
        rw [bitL_bitsOf, decide_eq_true hj, Bool.true_and, valOf_eq]
        exact valF_bit _ _ _ _ hj
  · have := lead_four e
    exact .inr (.inl ⟨this, by unfold rdUk; rw [if_pos (by rw [e]; decide), e]⟩)
  · have h1 := lead_form e
    have h2 := lead_end e h
    exact .inl ⟨_, rfl, by omega, by omega, by unfold rdUk; rw [if_pos (by rw [e]; decide), e]⟩
theorem read_ue {s : ByteArray} {pos v : Nat} (hv : v ≤ 4294967294) (h : Begins s pos (ueBits v)) : rdUk s pos 0 = (v, 0, pos + (ueBits v).length) := by
  have := read_uk (s := s) (pos := pos) (k := 0) (v := v) (by rw [Nat.pow_zero, Nat.div_one]; omega) (by rw [ukBits_zero]; exact h)
  rwa [ukBits_zero] at this
theorem begins_pack (l : List Bool) (p r : List Bool) : Begins (pack (p ++ (l ++ r))) p.length l := by
  refine ⟨?_, fun j hj => ?_⟩
  · rw [size_pack]; simp only [List.length_append]; omega
  · rw [bitAt_pack, bitL_append, if_neg (by omega), bitL_append, if_pos (by omega)]; congr 1; omega
theorem chars_inj {a b : List Bool} (h : chars a = chars b) : a = b := by
  unfold chars at h
  have h1 : (a.map fun b => if b then (49 : UInt8) else 48) = b.map fun b => if b then (49 : UInt8) else 48 := by
    have := congrArg (fun x => x.data.toList) h
    simpa using this
  exact (List.map_inj_right (fun x y e => by cases x <;> cases y <;> simp_all)).1 h1

theorem chars_take (a : List Bool) (n : Nat) : ((chars a).extract 0 n).toList = (chars (a.take n)).toList := by
  rw [Lib.toList_data, Lib.toList_data]
  unfold chars
  simp [ByteArray.data_extract]
theorem chars_toList (a : List Bool) : (chars a).toList = a.map fun b => if b then (49 : UInt8) else 48 := by
  rw [Lib.toList_data]
  unfold chars
  simp
theorem chars_eqB (a b : List Bool) : ((chars a).toList == (chars b).toList) = decide (a = b) := by
  rw [chars_toList, chars_toList]
  by_cases h : a = b
  · subst h; simp
  · rw [decide_eq_false h, beq_eq_false_iff_ne]
    exact fun e => h ((List.map_inj_right (fun x y e => by cases x <;> cases y <;> simp_all)).1 e)
/-- What ue reads is a number whose code stands there. -/
theorem ue_back {s : ByteArray} {pos v q : Nat} (hp : pos ≤ 8 * s.size) (h : rdUk s pos 0 = (v, 0, q)) : v ≤ 4294967294 ∧ Begins s pos (ueBits v) ∧ q = pos + (ueBits v).length := by
  rcases lead_cases s pos hp with ⟨n, _, _, _, e⟩ | ⟨_, e⟩ | ⟨n, x, _, _, c, hx, e, hl, hb⟩
  · rw [e] at h; cases h
  · rw [e] at h; cases h
  · rw [e] at h
    cases h
    exact ⟨hx, ⟨by omega, fun j hj => (hb j (by omega)).symm⟩, by omega⟩
theorem Begins.join {s : ByteArray} {pos : Nat} {l m : List Bool} (h : Begins s pos l) (k : Begins s (pos + l.length) m) : Begins s pos (l ++ m) := by
  refine ⟨by have := k.1; rw [List.length_append]; omega, fun j hj => ?_⟩
  rw [List.length_append] at hj
  rw [bitL_append]
  by_cases e : j < l.length
  · rw [if_pos e]; exact h.2 j e
  · rw [if_neg e, ← k.2 (j - l.length) (by omega)]
    congr 1; omega
end Go.Proofs.YtdkmeldcpamnnaaDoor
