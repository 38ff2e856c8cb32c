/- Plain facts on a unit that is encoded and decoded, and the other way round. -/
import Derived.Test.YtghdnefaempigaaDoorRDec
import Derived.Test.YtghdnefaempigaaDoorCl
namespace Go.Proofs.YtghdnefaempigaaDoor
open Go.RowKit
set_option linter.unusedVariables false

theorem bytes_backU (l : List UInt8) : (bytesOf l).data.toList = l := by simp [bytesOf]
/-- The bytes T of a unit whose header is x, and P, the escaped payload. -/
theorem unit_more (r k : Nat) (l : List UInt8) (x y : UInt8) (T : ByteArray) (h0 : 0 < T.size) (hr : r ≤ 3) (hk : k ≤ 31) (hx : x.toNat = 32 * r + k) (hT : bytesOf [x] ++ bytesOf (esc l) = T) (tx : T[0] = x) (ty : T[T.size - 1]'(by omega) = y) :
    ((r + k = 0 ↔ x = 0) ∧ (∀ h : 0 < (bytesOf (esc l)).size, (bytesOf (esc l))[(bytesOf (esc l)).size - 1]'(by omega) = y) ∧ ((bytesOf (esc l)).size = 0 → y = x)) ∧
    (x ≠ 0 → y ≠ 0 → decR T = ((r : Int), (k : Int), bytesOf l, (0 : Int))) ∧ (x ≠ 0 → ∀ i, ¬ Bad T.data.toList i) := by
  have hx0 : x = 0 ↔ x.toNat = 0 := by rw [← UInt8.toNat_inj]; rfl
  have hl : T.data.toList = x :: esc l := by rw [← hT, bytesOf_cons, bytes_backU]
  have hla := last_at T h0
  rw [ty, hl] at hla
  refine ⟨⟨by rw [hx0, hx]; omega, fun h => ?_, fun h => ?_⟩, fun a b => ?_, fun a i => ?_⟩
  · have h1 := last_at (bytesOf (esc l)) h
    rw [bytes_backU] at h1
    rw [List.getLast?_cons, h1] at hla
    exact Option.some.inj hla
  · have he : esc l = [] := List.length_eq_zero_iff.1 (by rw [size_bytesOf] at h; exact h)
    rw [he] at hla
    exact (Option.some.inj hla).symm
  · rw [dec_fit T h0]
    have hf : fitB T h0 = true := by
      unfold fitB
      rw [tx, ty]
      simp only [Bool.and_eq_true, decide_eq_true_eq]
      exact ⟨⟨a, by omega⟩, b⟩
    rw [if_pos hf]
    have ht : (T.extract 1 T.size).data.toList = esc l := by
      have := list_at T h0
      rw [hl] at this
      injection this with _ this
      exact this.symm
    rw [ht, (unesc_iff _ _).2 rfl]
    simp only [tx, hx]
    have e1 : (32 * r + k) / 32 = r := by omega
    have e2 : (32 * r + k) % 32 = k := by omega
    rw [e1, e2]
  · rw [hl]
    rintro ⟨b0, b1, b2⟩
    cases i with
    | zero => simp at b0; exact a b0
    | succ i => exact esc_clean l i ⟨by simpa using b0, by simpa using b1, by simpa using b2⟩
/-- What is decoded would be encoded so. -/
theorem dec_enc (s : ByteArray) : (decR s).2.2.2 = 0 → ∃ (a b : Nat) (q : List UInt8), decR s = ((a : Int), (b : Int), bytesOf q, (0 : Int)) ∧ a ≤ 7 ∧ b ≤ 31 ∧ q.length ≤ s.size ∧ encR a b q = (s, 0) := by
  intro h
  by_cases h0 : s.size = 0
  · rw [dec_empty s h0] at h; cases h
  · have h1 : 0 < s.size := by omega
    rw [dec_fit s h1] at h ⊢
    by_cases hf : fitB s h1 = true
    · rw [if_pos hf] at h ⊢
      cases hu : unesc (s.extract 1 s.size).data.toList with
      | none => rw [hu] at h; cases h
      | some p =>
        have hb := (enc_back s h1 p hu).1 hf
        have hlt := (s[0]).toNat_lt
        have hp := (unesc_iff _ _).1 hu
        have hl := (esc_len p).1
        rw [hp] at hl
        have h2 : (s.extract 1 s.size).data.toList.length = s.size - 1 := by simp
        exact ⟨_, _, p, rfl, by omega, by omega, by omega, hb⟩
    · rw [if_neg hf] at h; cases h
end Go.Proofs.YtghdnefaempigaaDoor
