/- The reference's Read. -/
import Derived.Test.YtdkmeldcpamnnaaDoorRMs
namespace Go.Proofs.YtdkmeldcpamnnaaDoor
open Go.RowKit
set_option linter.unusedVariables false

/-- A number that a command has, or has not, by a scan. -/
def optS (s : ByteArray) (b : Bool) (E : Int) (q : Nat) : Int × Int × Nat := if b = true then ueS s E q else (0, E, q)
def fullS (E : Int) (full : Bool) : Int := if E = 0 ∧ full = true then 6 else E
theorem ueS_zero (s : ByteArray) (q : Nat) : ueS s 0 q = (((rdUk s q 0).1 : Int), (rdUk s q 0).2.1, (rdUk s q 0).2.2) := by simp [ueS]
theorem ueS_err (s : ByteArray) (E : Int) (q : Nat) (h : E ≠ 0) : ueS s E q = (0, E, q) := by simp [ueS, h]
theorem optS_err (s : ByteArray) (b : Bool) (E : Int) (q : Nat) (h : E ≠ 0) : optS s b E q = (0, E, q) := by unfold optS; split; exact ueS_err s E q h; rfl
theorem optS_num (s : ByteArray) (b : Bool) (q : Nat) : optS s b 0 q = numR s q b := by unfold optS numR; rw [ueS_zero]
theorem step_end' {m : Bool} {s : ByteArray} {full : Bool} {q : Nat} {v e1 : Int} {q1 : Nat} (h : ueS s 0 q = (v, e1, q1)) (he : e1 = 0) (hv : v = (endN m : Nat)) : stepI m s full q = (0, none, q1) := by
  rw [ueS_zero] at h
  cases h
  unfold stepI
  rw [if_neg (fun x => x he), if_pos (by omega)]
theorem step_by {m : Bool} {s : ByteArray} {full : Bool} {q : Nat} {v e1 : Int} {q1 : Nat} (h : ueS s 0 q = (v, e1, q1)) (hn : ¬ (e1 = 0 ∧ v = (endN m : Nat))) {a b : Int × Int × Nat}
    (ha : a = optS s (decide (0 < (hasI m v).1)) (fullS (kindS e1 (hasI m v).2) full) q1) (hb : b = optS s (decide (1 < (hasI m v).1)) a.2.1 a.2.2) :
    stepI m s full q = if b.2.1 ≠ 0 then (b.2.1, none, 0) else (0, some (v, a.1, b.1), b.2.2) := by
  rw [ueS_zero] at h
  cases h
  by_cases he : (rdUk s q 0).2.1 = 0
  · rw [he] at ha hn
    have hn' : ¬ (rdUk s q 0).1 = endN m := fun e => hn ⟨rfl, by omega⟩
    cases hi : (hasI m ((rdUk s q 0).1 : Int)).2 with
    | false =>
      rw [hi] at ha
      have k : fullS (kindS 0 false) full = 9 := by simp [kindS, fullS]
      rw [k, optS_err _ _ _ _ (by decide)] at ha
      subst ha
      dsimp only at hb
      rw [optS_err _ _ _ _ (by decide)] at hb
      subst hb
      unfold stepI
      rw [if_neg (fun x => x he), if_neg hn', if_pos hi]
      simp
    | true =>
      rw [hi] at ha
      cases full with
      | true =>
        have k : fullS (kindS 0 true) true = 6 := by simp [kindS, fullS]
        rw [k, optS_err _ _ _ _ (by decide)] at ha
        subst ha
        dsimp only at hb
        rw [optS_err _ _ _ _ (by decide)] at hb
        subst hb
        unfold stepI
        rw [if_neg (fun x => x he), if_neg hn', if_neg (by rw [hi]; simp), if_pos rfl]
        simp
      | false =>
        have k : fullS (kindS 0 true) false = 0 := by simp [kindS, fullS]
        rw [k, optS_num] at ha
        unfold stepI
        rw [if_neg (fun x => x he), if_neg hn', if_neg (by rw [hi]; simp), if_neg (by simp), ← ha]
        by_cases z : a.2.1 = 0
        · rw [z, optS_num] at hb
          rw [if_neg (fun x => x z), ← hb]
        · rw [optS_err _ _ _ _ z] at hb
          subst hb
          rw [if_pos z, if_pos z]
  · have k : fullS (kindS (rdUk s q 0).2.1 (hasI m ((rdUk s q 0).1 : Int)).2) full = (rdUk s q 0).2.1 := by simp [kindS, fullS, he]
    rw [k, optS_err _ _ _ _ he] at ha
    subst ha
    dsimp only at hb
    rw [optS_err _ _ _ _ he] at hb
    subst hb
    unfold stepI
    rw [if_pos he, if_pos he]
theorem readF_zero (m : Bool) (s : ByteArray) (q : Nat) (e : Int) (o : Option (Int × Int × Int)) (p : Nat) (h : stepI m s true q = (e, o, p)) : readF m s 0 q = joinT [] ([], e, p) := by rw [readF, h]
theorem readF_end {m : Bool} {s : ByteArray} {k q p : Nat} {e : Int} (h : stepI m s (decide (k = 0)) q = (e, none, p)) : readF m s k q = joinT [] ([], e, p) := by
  cases k with
  | zero => exact readF_zero m s q e none p h
  | succ k => rw [readF, show stepI m s false q = (e, none, p) from h]
theorem readF_more {m : Bool} {s : ByteArray} {k q p : Nat} {x : Int × Int × Int} (h : stepI m s false q = (0, some x, p)) : readF m s (k + 1) q = joinT [x] (readF m s k p) := by rw [readF, h]
theorem step_full {m : Bool} {s : ByteArray} {q p : Nat} {x : Int × Int × Int} : ¬ stepI m s true q = (0, some x, p) := by
  intro h
  unfold stepI at h
  split at h
  · simp at h
  · split at h
    · simp at h
    · split at h
      · simp at h
      · simp at h
theorem joinT_readF (m : Bool) (s : ByteArray) (k q : Nat) : joinT [] (readF m s k q) = readF m s k q := by
  cases k with
  | zero =>
    rw [readF]
    generalize stepI m s true q = S
    obtain ⟨e, o, p⟩ := S
    exact joinT_join [] [] _
  | succ k =>
    rw [readF]
    generalize stepI m s false q = S
    obtain ⟨e, o, p⟩ := S
    cases o with
    | none => exact joinT_join [] [] _
    | some x => exact joinT_join [] [x] _
end Go.Proofs.YtdkmeldcpamnnaaDoor
