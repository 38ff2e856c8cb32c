/- Plain facts: so many bytes 0, escaped. -/
import Derived.Test.YtghdnefaempigaaDoorKn
import Derived.Test.YtghdnefaempigaaDoorNalP
import Derived.Test.YtghdnefaempigaaDoorCl
import Derived.Test.YtghdnefaempigaaDoorUnit
import Derived.ProofKit
import Derived.OpenShut
namespace Go.Proofs.YtghdnefaempigaaDoor
open Go.RowKit
set_option linter.unusedVariables false

/-- So many bytes 0; what is wanted of k of them, i of them written. -/
def zs (n : Nat) : List UInt8 := List.replicate n 0
def wantL (k : Nat) (last : UInt8) : Nat → List UInt8
  | 0 => []
  | i + 1 => wantL k last i ++ [0] ++ if (i + 1) % 2 = 0 ∧ (i + 1 < k ∨ last ≤ 3) then [3] else []
theorem zs_succ (n : Nat) : zs (n + 1) = zs n ++ [0] := by unfold zs; rw [List.replicate_succ']
theorem zs_len (n : Nat) : (zs n).length = n := by simp [zs]
theorem st2_zs (n : Nat) : stF 0 (zs n) = st2 n := by
  induction n with
  | zero => rfl
  | succ n ih =>
    rw [zs_succ, stF_append, ih]
    show zNext (st2 n) 0 = st2 (n + 1)
    rw [← st2_next]
    rfl
theorem body_zs (n : Nat) : bodyF 0 (zs (n + 1)) = bodyF 0 (zs n) ++ if st2 n = 2 then [3, 0] else [0] := by
  rw [zs_succ, bodyF_append, st2_zs]
  congr 1
  simp only [bodyF]
  by_cases h : st2 n = 2
  · rw [if_pos ⟨h, by decide⟩, if_pos h]
  · rw [if_neg (fun e => h e.1), if_neg h]
/-- With a byte 3 wanted behind every second one of the first i. -/
theorem want_body (k : Nat) (last : UInt8) : ∀ i, i ≤ k → wantL k last i = bodyF 0 (zs i) ++ if st2 i = 2 ∧ (i < k ∨ last ≤ 3) then [3] else [] := by
  intro i
  induction i with
  | zero => intro _; rfl
  | succ i ih =>
    intro h
    have hlt : i < k := by omega
    have e1 := ih (by omega)
    have e2 : (if st2 i = 2 ∧ (i < k ∨ last ≤ 3) then [3] else ([] : List UInt8)) = if st2 i = 2 then [3] else [] := by
      by_cases a : st2 i = 2
      · rw [if_pos ⟨a, .inl hlt⟩, if_pos a]
      · rw [if_neg (fun e => a e.1), if_neg a]
    rw [e2] at e1
    show wantL k last i ++ [0] ++ (if (i + 1) % 2 = 0 ∧ (i + 1 < k ∨ last ≤ 3) then [3] else []) = _
    rw [e1, body_zs]
    have e3 : ((i + 1) % 2 = 0 ∧ (i + 1 < k ∨ last ≤ 3)) ↔ (st2 (i + 1) = 2 ∧ (i + 1 < k ∨ last ≤ 3)) := by
      have : st2 (i + 1) = 2 ↔ (i + 1) % 2 = 0 := by unfold st2; simp
      rw [this]
    have e4 : (if (i + 1) % 2 = 0 ∧ (i + 1 < k ∨ last ≤ 3) then [3] else ([] : List UInt8)) = if st2 (i + 1) = 2 ∧ (i + 1 < k ∨ last ≤ 3) then [3] else [] := by
      by_cases a : (i + 1) % 2 = 0 ∧ (i + 1 < k ∨ last ≤ 3)
      · rw [if_pos a, if_pos (e3.1 a)]
      · rw [if_neg a, if_neg (fun e => a (e3.2 e))]
    rw [e4]
    by_cases a : st2 i = 2
    · simp [a]
    · simp [a]
theorem want_all (k : Nat) (last : UInt8) : (last = 0 → esc (zs k) = wantL k last k) ∧ (last ≠ 0 → esc (zs k ++ [last]) = wantL k last k ++ [last]) := by
  have h := want_body k last k (Nat.le_refl _)
  constructor
  · intro e
    subst e
    rw [h]
    unfold esc
    rw [escF_body, st2_zs]
    by_cases a : st2 k = 2
    · rw [if_pos a, if_pos ⟨a, .inr (by decide)⟩]
    · rw [if_neg a, if_neg (fun e => a e.1)]
  · intro hne
    rw [h]
    unfold esc
    rw [escF_append, st2_zs]
    have hz : ∀ z, zNext z last = 0 := by intro z; unfold zNext; rw [if_neg hne]
    have e0 : escF 0 ([] : List UInt8) = [] := rfl
    simp only [escF, hz]
    by_cases a : st2 k = 2
    · by_cases b : last ≤ 3
      · simp [a, b]
      · simp [a, b]
    · simp [a]
theorem want_len (k : Nat) (last : UInt8) : ∀ i, (wantL k last i).length ≤ 2 * i := by
  intro i
  induction i with
  | zero => simp [wantL]
  | succ i ih =>
    show (wantL k last i ++ [0] ++ (if (i + 1) % 2 = 0 ∧ (i + 1 < k ∨ last ≤ 3) then [3] else [])).length ≤ _
    split <;> simp <;> omega
theorem bytes_snoc (l : List UInt8) (x : UInt8) : bytesOf l ++ ⟨#[x]⟩ = bytesOf (l ++ [x]) := by
  unfold bytesOf; apply ByteArray.ext; simp
end Go.Proofs.YtghdnefaempigaaDoor
