/- Plain facts on emulation prevention: escaping, and what is escaped. -/
import Derived.Test.YtfigmjlnjaihnaaObj
namespace Go.Proofs.Ytfigmjlnjaihnaa
set_option linter.unusedVariables false

/-- How many bytes 0 are at the end, behind a byte more (at most 2: a byte 3 is written ahead of a third). -/
def zNext (z : Nat) (b : UInt8) : Nat := if b = 0 then (if z = 2 then 1 else z + 1) else 0
/-- The escaped bytes behind z bytes 0. -/
def escF : Nat → List UInt8 → List UInt8
  | z, [] => if z = 2 then [3] else []
  | z, b :: l => if z = 2 ∧ b ≤ 3 then 3 :: b :: escF (zNext z b) l else b :: escF (zNext z b) l
def esc (l : List UInt8) : List UInt8 := escF 0 l
/-- What is left without the bytes 3 behind two bytes 0; none where three bytes 0 follow one another. -/
def unF : Nat → List UInt8 → Option (List UInt8)
  | _, [] => some []
  | z, b :: l => if z = 2 ∧ b = 3 then unF 0 l else if z = 2 ∧ b = 0 then none else (unF (if b = 0 then z + 1 else 0) l).map (b :: ·)

theorem zNext_le {z : Nat} (b : UInt8) (h : z ≤ 2) : zNext z b ≤ 2 := by unfold zNext; split <;> (try split) <;> omega
theorem le_three (b : UInt8) : b ≤ 3 ↔ b = 0 ∨ b = 1 ∨ b = 2 ∨ b = 3 := by
  rw [UInt8.le_iff_toNat_le, ← UInt8.toNat_inj, ← UInt8.toNat_inj, ← UInt8.toNat_inj, ← UInt8.toNat_inj]
  show b.toNat ≤ 3 ↔ b.toNat = 0 ∨ b.toNat = 1 ∨ b.toNat = 2 ∨ b.toNat = 3
  omega

/-- What was escaped is found again. -/
theorem unF_escF (l : List UInt8) : ∀ z, z ≤ 2 → unF z (escF z l) = some l := by
  induction l with
  | nil =>
    intro z hz
    unfold escF
    split
    · rename_i h; subst h; simp [unF]
    · simp [unF]
  | cons b l ih =>
    intro z hz
    unfold escF
    split
    · rename_i h
      obtain ⟨rfl, hb⟩ := h
      have e : zNext 2 b = if b = 0 then 0 + 1 else 0 := by unfold zNext; simp
      rw [unF, if_pos ⟨rfl, rfl⟩, unF, if_neg (by omega), if_neg (by omega), ← e, ih _ (zNext_le b (by omega))]
      rfl
    · rename_i h
      have n3 : ¬ (z = 2 ∧ b = 3) := fun e => h ⟨e.1, by rw [e.2]; decide⟩
      have n0 : ¬ (z = 2 ∧ b = 0) := fun e => h ⟨e.1, by rw [e.2]; decide⟩
      have e : zNext z b = if b = 0 then z + 1 else 0 := by
        unfold zNext
        split
        · rename_i hb
          rw [if_neg (fun hz2 => n0 ⟨hz2, hb⟩)]
        · rfl
      rw [unF, if_neg n3, if_neg n0, ← e, ih _ (zNext_le b hz)]
      rfl
theorem esc_inj {l m : List UInt8} (h : esc l = esc m) : l = m := by
  have a := unF_escF l 0 (by omega)
  have b := unF_escF m 0 (by omega)
  unfold esc at h
  rw [h, b] at a
  exact (Option.some.inj a).symm
/-- The string that was escaped, if there is one. -/
def unesc (s : List UInt8) : Option (List UInt8) := match unF 0 s with
  | some t => if esc t = s then some t else none
  | none => none
theorem unesc_iff (s t : List UInt8) : unesc s = some t ↔ esc t = s := by
  unfold unesc
  constructor
  · intro h
    split at h
    · split at h
      · rename_i e; injection h with h; rw [← h]; exact e
      · cases h
    · cases h
  · intro h
    subst h
    have := unF_escF t 0 (by omega)
    unfold esc
    rw [this]
    simp
theorem unesc_none (s : List UInt8) : unesc s = none ↔ ∀ t, esc t ≠ s := by
  constructor
  · intro h t e
    rw [(unesc_iff s t).2 e] at h
    cases h
  · intro h
    cases e : unesc s with
    | none => rfl
    | some t => exact absurd ((unesc_iff s t).1 e) (h t)

/-- Lengths. -/
theorem escF_len (l : List UInt8) : ∀ z, z ≤ 2 → l.length ≤ (escF z l).length ∧ 2 * (escF z l).length ≤ 3 * l.length + z := by
  induction l with
  | nil => intro z hz; unfold escF; split <;> simp; omega
  | cons b l ih =>
    intro z hz
    unfold escF
    have hn := zNext_le b hz
    obtain ⟨i1, i2⟩ := ih (zNext z b) hn
    split
    · rename_i h
      have hz1 : zNext z b ≤ 1 := by unfold zNext; rw [if_pos h.1]; split <;> omega
      simp only [List.length_cons]
      omega
    · have hz1 : zNext z b ≤ z + 1 := by unfold zNext; split <;> (try split) <;> omega
      simp only [List.length_cons]
      omega
theorem esc_len (l : List UInt8) : l.length ≤ (esc l).length ∧ (esc l).length ≤ l.length + l.length / 2 := by
  have := escF_len l 0 (by omega)
  unfold esc
  omega

/-- Is a byte inserted? -/
def insF : Nat → List UInt8 → Bool
  | z, [] => z == 2
  | z, b :: l => (z == 2 && decide (b ≤ 3)) || insF (if b = 0 then z + 1 else 0) l
theorem escF_same (l : List UInt8) : ∀ z, z ≤ 2 → insF z l = false → escF z l = l := by
  induction l with
  | nil => intro z _ h; simp [insF] at h; simp [escF, h]
  | cons b l ih =>
    intro z hz h
    simp only [insF, Bool.or_eq_false_iff] at h
    obtain ⟨h1, h2⟩ := h
    have hn : ¬ (z = 2 ∧ b ≤ 3) := by
      intro e; simp [e.1, e.2] at h1
    have e : zNext z b = if b = 0 then z + 1 else 0 := by
      unfold zNext
      split
      · rename_i hb
        rw [if_neg (fun hz2 => hn ⟨hz2, by rw [hb]; decide⟩)]
      · rfl
    rw [escF, if_neg hn, e, ih _ (by rw [← e]; exact zNext_le b hz) h2]
theorem escF_more (l : List UInt8) : ∀ z, z ≤ 2 → insF z l = true → l.length < (escF z l).length := by
  induction l with
  | nil => intro z _ h; simp [insF] at h; simp [escF, h]
  | cons b l ih =>
    intro z hz h
    unfold escF
    split
    · have := (escF_len l (zNext z b) (zNext_le b hz)).1
      simp only [List.length_cons]; omega
    · rename_i hn
      have e : zNext z b = if b = 0 then z + 1 else 0 := by
        unfold zNext
        split
        · rename_i hb
          rw [if_neg (fun hz2 => hn ⟨hz2, by rw [hb]; decide⟩)]
        · rfl
      simp only [insF, Bool.or_eq_true, Bool.and_eq_true, beq_iff_eq, decide_eq_true_eq] at h
      rcases h with h | h
      · exact absurd h hn
      · have := ih _ (zNext_le b hz) (by rw [e]; exact h)
        simp only [List.length_cons]; omega
theorem esc_same (l : List UInt8) : esc l = l ↔ insF 0 l = false := by
  constructor
  · intro h
    cases e : insF 0 l with
    | false => rfl
    | true =>
      have := escF_more l 0 (by omega) e
      unfold esc at h
      rw [h] at this
      omega
  · exact escF_same l 0 (by omega)

/-- No three bytes 0 0 0, 0 0 1, 0 0 2, behind z bytes 0. -/
def cleanF : Nat → List UInt8 → Bool
  | _, [] => true
  | z, b :: l => !(decide (2 ≤ z) && decide (b ≤ 2)) && cleanF (if b = 0 then z + 1 else 0) l
theorem cleanF_escF (l : List UInt8) : ∀ z, z ≤ 2 → cleanF z (escF z l) = true := by
  induction l with
  | nil => intro z _; unfold escF; split <;> simp [cleanF]
  | cons b l ih =>
    intro z hz
    unfold escF
    split
    · rename_i h
      obtain ⟨rfl, hb⟩ := h
      have e : zNext 2 b = if b = 0 then 0 + 1 else 0 := by unfold zNext; simp
      have := ih _ (zNext_le b hz)
      simp only [cleanF, show ¬ ((3 : UInt8) ≤ 2) from by decide, decide_false, Bool.and_false, Bool.not_false, Bool.true_and, show ¬ ((3 : UInt8) = 0) from by decide, if_false, show ¬ (2 ≤ 0) from by omega, Bool.false_and]
      rw [← e]; exact this
    · rename_i hn
      have e : zNext z b = if b = 0 then z + 1 else 0 := by
        unfold zNext
        split
        · rename_i hb
          rw [if_neg (fun hz2 => hn ⟨hz2, by rw [hb]; decide⟩)]
        · rfl
      have := ih _ (zNext_le b hz)
      simp only [cleanF, Bool.and_eq_true, Bool.not_eq_true', Bool.and_eq_false_iff, decide_eq_false_iff_not]
      refine ⟨?_, by rw [← e]; exact this⟩
      by_cases h2 : z = 2
      · refine .inr fun hb => hn ⟨h2, UInt8.le_trans hb (by decide)⟩
      · exact .inl (by omega)

/-- What is written of bytes, without the end; how many bytes 0 are at the end. -/
def bodyF : Nat → List UInt8 → List UInt8
  | _, [] => []
  | z, b :: l => if z = 2 ∧ b ≤ 3 then 3 :: b :: bodyF (zNext z b) l else b :: bodyF (zNext z b) l
def stF : Nat → List UInt8 → Nat
  | z, [] => z
  | z, b :: l => stF (zNext z b) l
theorem escF_append (s t : List UInt8) : ∀ z, escF z (s ++ t) = bodyF z s ++ escF (stF z s) t := by
  induction s with
  | nil => intro z; rfl
  | cons b s ih =>
    intro z
    simp only [List.cons_append, escF, bodyF, stF]
    rw [ih]
    split <;> rfl
theorem stF_append (s t : List UInt8) : ∀ z, stF z (s ++ t) = stF (stF z s) t := by
  induction s with
  | nil => intro z; rfl
  | cons b s ih => intro z; simp only [List.cons_append, stF]; exact ih _
theorem stF_le (s : List UInt8) : ∀ z, z ≤ 2 → stF z s ≤ 2 := by
  induction s with
  | nil => intro z h; exact h
  | cons b s ih => intro z h; exact ih _ (zNext_le b h)
theorem bodyF_append (s t : List UInt8) : ∀ z, bodyF z (s ++ t) = bodyF z s ++ bodyF (stF z s) t := by
  induction s with
  | nil => intro z; rfl
  | cons b s ih =>
    intro z
    simp only [List.cons_append, bodyF, stF]
    rw [ih]
    split <;> rfl
theorem escF_body (s : List UInt8) (z : Nat) : escF z s = bodyF z s ++ if stF z s = 2 then [3] else [] := by
  have := escF_append s [] z
  rw [List.append_nil] at this
  rw [this]; rfl
/-- Behind a byte that is not 0 escaping begins anew. -/
theorem esc_parts (s t : List UInt8) (h : s = [] ∨ ∃ r b, s = r ++ [b] ∧ b ≠ 0) : esc (s ++ t) = esc s ++ esc t := by
  have hst : stF 0 s = 0 := by
    rcases h with rfl | ⟨r, b, rfl, hb⟩
    · rfl
    · rw [stF_append]; simp [stF, zNext, hb]
  unfold esc
  rw [escF_append, escF_body s, hst]
  simp

/-- Three bytes that may not be, by their places. -/
def Bad (l : List UInt8) (i : Nat) : Prop := l[i]? = some 0 ∧ l[i + 1]? = some 0 ∧ ∃ b, l[i + 2]? = some b ∧ b ≤ 2
theorem cleanF_iff (l : List UInt8) : ∀ z, cleanF z l = false ↔ (2 ≤ z ∧ ∃ b, l[0]? = some b ∧ b ≤ 2) ∨ (1 ≤ z ∧ l[0]? = some 0 ∧ ∃ b, l[1]? = some b ∧ b ≤ 2) ∨ ∃ i, Bad l i := by
  induction l with
  | nil => intro z; simp [cleanF, Bad]
  | cons b l ih =>
    intro z
    have split0 : (∃ i, Bad (b :: l) i) ↔ (b = 0 ∧ l[0]? = some 0 ∧ ∃ c, l[1]? = some c ∧ c ≤ 2) ∨ ∃ i, Bad l i := by
      constructor
      · rintro ⟨i, h⟩
        cases i with
        | zero => exact .inl (by simpa [Bad] using h)
        | succ i => exact .inr ⟨i, by simpa [Bad] using h⟩
      · rintro (h | ⟨i, h⟩)
        · exact ⟨0, by simpa [Bad] using h⟩
        · exact ⟨i + 1, by simpa [Bad] using h⟩
    rw [split0, cleanF, Bool.and_eq_false_iff, Bool.not_eq_false', Bool.and_eq_true, decide_eq_true_eq, decide_eq_true_eq, ih]
    by_cases hb : b = 0
    · subst hb
      rw [if_pos rfl]
      simp only [List.getElem?_cons_zero, Option.some.injEq, exists_eq_left', List.getElem?_cons_succ, true_and]
      constructor
      · rintro (h | ⟨h1, h2⟩ | ⟨_, h⟩ | h)
        · exact .inl h
        · exact .inr (.inl ⟨by omega, h2⟩)
        · exact .inr (.inr (.inl h))
        · exact .inr (.inr (.inr h))
      · rintro (h | ⟨h1, h2⟩ | h | h)
        · exact .inl h
        · exact .inr (.inl ⟨by omega, h2⟩)
        · exact .inr (.inr (.inl ⟨by omega, h⟩))
        · exact .inr (.inr (.inr h))
    · rw [if_neg hb]
      simp only [List.getElem?_cons_zero, Option.some.injEq, exists_eq_left', List.getElem?_cons_succ, hb, false_and, and_false, false_or]
      constructor
      · rintro (h | ⟨h, _⟩ | ⟨h, _⟩ | h)
        · exact .inl h
        · omega
        · omega
        · exact .inr h
      · rintro (h | h)
        · exact .inl h
        · exact .inr (.inr (.inr h))
theorem clean_iff (l : List UInt8) : cleanF 0 l = true ↔ ∀ i, ¬ Bad l i := by
  have h := cleanF_iff l 0
  constructor
  · intro e i hb
    rw [h.2 (.inr (.inr ⟨i, hb⟩))] at e
    cases e
  · intro e
    cases c : cleanF 0 l with
    | true => rfl
    | false =>
      rcases h.1 c with ⟨h1, _⟩ | ⟨h1, _⟩ | ⟨i, hb⟩
      · omega
      · omega
      · exact absurd hb (e i)
/-- An escaped string has none of them. -/
theorem esc_clean (l : List UInt8) (i : Nat) : ¬ Bad (esc l) i := (clean_iff _).1 (cleanF_escF l 0 (by omega)) i

/-- The end, or a byte of at most 3. -/
def EndAt (l : List UInt8) (j : Nat) : Prop := l[j]? = none ∨ ∃ b, l[j]? = some b ∧ b ≤ 3
theorem insF_iff (l : List UInt8) : ∀ z, z ≤ 2 → (insF z l = true ↔ (2 ≤ z ∧ EndAt l 0) ∨ (1 ≤ z ∧ l[0]? = some 0 ∧ EndAt l 1) ∨ ∃ i, l[i]? = some 0 ∧ l[i + 1]? = some 0 ∧ EndAt l (i + 2)) := by
  induction l with
  | nil =>
    intro z hz
    simp [insF, EndAt]
    omega
  | cons b l ih =>
    intro z hz
    have split0 : (∃ i, (b :: l)[i]? = some 0 ∧ (b :: l)[i + 1]? = some 0 ∧ EndAt (b :: l) (i + 2)) ↔ (b = 0 ∧ l[0]? = some 0 ∧ EndAt l 1) ∨ ∃ i, l[i]? = some 0 ∧ l[i + 1]? = some 0 ∧ EndAt l (i + 2) := by
      constructor
      · rintro ⟨i, h⟩
        cases i with
        | zero => exact .inl (by simpa [EndAt] using h)
        | succ i => exact .inr ⟨i, by simpa [EndAt] using h⟩
      · rintro (h | ⟨i, h⟩)
        · exact ⟨0, by simpa [EndAt] using h⟩
        · exact ⟨i + 1, by simpa [EndAt] using h⟩
    have e0 : EndAt (b :: l) 0 ↔ b ≤ 3 := by simp [EndAt]
    have e1 : EndAt (b :: l) 1 ↔ EndAt l 0 := by simp [EndAt]
    rw [split0, e0, e1, insF, Bool.or_eq_true, Bool.and_eq_true, beq_iff_eq, decide_eq_true_eq]
    by_cases hin : z = 2 ∧ b ≤ 3
    · exact ⟨fun _ => .inl ⟨by omega, hin.2⟩, fun _ => .inl hin⟩
    · by_cases hb : b = 0
      · subst hb
        have hz1 : z ≤ 1 := by
          have : z ≠ 2 := fun e => hin ⟨e, by decide⟩
          omega
        rw [if_pos rfl, ih (z + 1) (by omega)]
        simp only [List.getElem?_cons_zero, true_and]
        constructor
        · rintro (h | ⟨h1, h2⟩ | ⟨_, h⟩ | h)
          · exact absurd h hin
          · exact .inr (.inl ⟨by omega, h2⟩)
          · exact .inr (.inr (.inl h))
          · exact .inr (.inr (.inr h))
        · rintro (⟨h, _⟩ | ⟨h1, h2⟩ | h | h)
          · omega
          · exact .inr (.inl ⟨by omega, h2⟩)
          · exact .inr (.inr (.inl ⟨by omega, h⟩))
          · exact .inr (.inr (.inr h))
      · rw [if_neg hb, ih 0 (by omega)]
        simp only [List.getElem?_cons_zero, Option.some.injEq, hb, false_and, and_false, false_or]
        constructor
        · rintro (h | ⟨h, _⟩ | ⟨h, _⟩ | h)
          · exact absurd h hin
          · omega
          · omega
          · exact .inr h
        · rintro (⟨h1, h2⟩ | h)
          · exact absurd ⟨by omega, h2⟩ hin
          · exact .inr (.inr (.inr h))
/-- Nothing is inserted exactly where no two bytes 0 are followed by the end, or by a byte of at most 3. -/
theorem esc_same_iff (l : List UInt8) : esc l = l ↔ ∀ i, l[i]? = some 0 → l[i + 1]? = some 0 → ¬ EndAt l (i + 2) := by
  rw [esc_same]
  have h := insF_iff l 0 (by omega)
  constructor
  · intro e i a b c
    rw [h.2 (.inr (.inr ⟨i, a, b, c⟩))] at e
    cases e
  · intro e
    cases c : insF 0 l with
    | false => rfl
    | true =>
      rcases h.1 c with ⟨h1, _⟩ | ⟨h1, _⟩ | ⟨i, a, b, d⟩
      · omega
      · omega
      · exact absurd d (e i a b)
end Go.Proofs.Ytfigmjlnjaihnaa
