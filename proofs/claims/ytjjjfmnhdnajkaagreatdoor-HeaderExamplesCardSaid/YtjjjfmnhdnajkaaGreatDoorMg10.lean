/- The reference's Read. -/
/- Plain: what the reference's Read does, field by field, beside what the program's does. -/
/- The reference's Read: the walk. -/
import Derived.Test.YtjjjfmnhdnajkaaGreatDoorMg9
import Derived.Test.YtjjjfmnhdnajkaaGreatDoorMg8
import Derived.Test.YtjjjfmnhdnajkaaGreatDoorMg7
import Derived.Deep.QuietTactic
section
set_option maxRecDepth 20000
namespace Go.Proofs.YtjjjfmnhdnajkaaGreatDoor
open Go.RowKit
set_option linter.unusedVariables false

/-- A number that a command has, or has not, by a scan. -/
def optS (s : ByteArray) (b : Bool) (E : Int) (q : Nat) : Int × Int × Nat := if b = true then ueS s E q else (0, E, q)
def fullS (E : Int) (full : Bool) : Int := if E = 0 ∧ full = true then 6 else E
theorem ueS_zero (s : ByteArray) (q : Nat) : ueS s 0 q = (((rdUk s q 0).1 : Int), (rdUk s q 0).2.1, (rdUk s q 0).2.2) := by simp [ueS]
theorem ueS_err (s : ByteArray) (E : Int) (q : Nat) (h : E ≠ 0) : ueS s E q = (0, E, q) := by simp [ueS, h]
theorem optS_err (s : ByteArray) (b : Bool) (E : Int) (q : Nat) (h : E ≠ 0) : optS s b E q = (0, E, q) := by unfold optS; split; exact ueS_err s E q h; rfl
theorem optS_num (s : ByteArray) (b : Bool) (q : Nat) : optS s b 0 q = numR s q b := by unfold optS numR; rw [ueS_zero]
theorem step_end' {m : Bool} {s : ByteArray} {full : Bool} {q : Nat} {v e1 : Int} {q1 : Nat} (h : ueS s 0 q = (v, e1, q1)) (he : e1 = 0) (hv : v = (endN m : Nat)) : stepI m s full q = (0, none, q1) := by
  rw [ueS_zero] at h
  cases h
  unfold stepI
  rw [if_neg (fun x => x he), if_pos (by omega)]
theorem step_by {m : Bool} {s : ByteArray} {full : Bool} {q : Nat} {v e1 : Int} {q1 : Nat} (h : ueS s 0 q = (v, e1, q1)) (hn : ¬ (e1 = 0 ∧ v = (endN m : Nat))) {a b : Int × Int × Nat}
    (ha : a = optS s (decide (0 < (hasI m v).1)) (fullS (kindS e1 (hasI m v).2) full) q1) (hb : b = optS s (decide (1 < (hasI m v).1)) a.2.1 a.2.2) :
    stepI m s full q = if b.2.1 ≠ 0 then (b.2.1, none, 0) else (0, some (v, a.1, b.1), b.2.2) := by
  rw [ueS_zero] at h
  cases h
  by_cases he : (rdUk s q 0).2.1 = 0
  · rw [he] at ha hn
    have hn' : ¬ (rdUk s q 0).1 = endN m := fun e => hn ⟨rfl, by omega⟩
    cases hi : (hasI m ((rdUk s q 0).1 : Int)).2 with
    | false =>
      rw [hi] at ha
      have k : fullS (kindS 0 false) full = 9 := by simp [kindS, fullS]
      rw [k, optS_err _ _ _ _ (by decide)] at ha
      subst ha
      dsimp only at hb
      rw [optS_err _ _ _ _ (by decide)] at hb
      subst hb
      unfold stepI
      rw [if_neg (fun x => x he), if_neg hn', if_pos hi]
      simp
    | true =>
      rw [hi] at ha
      cases full with
      | true =>
        have k : fullS (kindS 0 true) true = 6 := by simp [kindS, fullS]
        rw [k, optS_err _ _ _ _ (by decide)] at ha
        subst ha
        dsimp only at hb
        rw [optS_err _ _ _ _ (by decide)] at hb
        subst hb
        unfold stepI
        rw [if_neg (fun x => x he), if_neg hn', if_neg (by rw [hi]; simp), if_pos rfl]
        simp
      | false =>
        have k : fullS (kindS 0 true) false = 0 := by simp [kindS, fullS]
        rw [k, optS_num] at ha
        unfold stepI
        rw [if_neg (fun x => x he), if_neg hn', if_neg (by rw [hi]; simp), if_neg (by simp), ← ha]
        by_cases z : a.2.1 = 0
        · rw [z, optS_num] at hb
          rw [if_neg (fun x => x z), ← hb]
        · rw [optS_err _ _ _ _ z] at hb
          subst hb
          rw [if_pos z, if_pos z]
  · have k : fullS (kindS (rdUk s q 0).2.1 (hasI m ((rdUk s q 0).1 : Int)).2) full = (rdUk s q 0).2.1 := by simp [kindS, fullS, he]
    rw [k, optS_err _ _ _ _ he] at ha
    subst ha
    dsimp only at hb
    rw [optS_err _ _ _ _ he] at hb
    subst hb
    unfold stepI
    rw [if_pos he, if_pos he]
theorem readF_zero (m : Bool) (s : ByteArray) (q : Nat) (e : Int) (o : Option (Int × Int × Int)) (p : Nat) (h : stepI m s true q = (e, o, p)) : readF m s 0 q = joinT [] ([], e, p) := by rw [readF, h]
theorem readF_end {m : Bool} {s : ByteArray} {k q p : Nat} {e : Int} (h : stepI m s (decide (k = 0)) q = (e, none, p)) : readF m s k q = joinT [] ([], e, p) := by
  cases k with
  | zero => exact readF_zero m s q e none p h
  | succ k => rw [readF, show stepI m s false q = (e, none, p) from h]
theorem readF_more {m : Bool} {s : ByteArray} {k q p : Nat} {x : Int × Int × Int} (h : stepI m s false q = (0, some x, p)) : readF m s (k + 1) q = joinT [x] (readF m s k p) := by rw [readF, h]
theorem step_full {m : Bool} {s : ByteArray} {q p : Nat} {x : Int × Int × Int} : ¬ stepI m s true q = (0, some x, p) := by
  intro h
  unfold stepI at h
  split at h
  · simp at h
  · split at h
    · simp at h
    · split at h
      · simp at h
      · simp at h
theorem joinT_readF (m : Bool) (s : ByteArray) (k q : Nat) : joinT [] (readF m s k q) = readF m s k q := by
  cases k with
  | zero =>
    rw [readF]
    generalize stepI m s true q = S
    obtain ⟨e, o, p⟩ := S
    exact joinT_join [] [] _
  | succ k =>
    rw [readF]
    generalize stepI m s false q = S
    obtain ⟨e, o, p⟩ := S
    cases o with
    | none => exact joinT_join [] [] _
    | some x => exact joinT_join [] [x] _
end Go.Proofs.YtjjjfmnhdnajkaaGreatDoor

end
section
set_option maxRecDepth 20000
namespace Go.Proofs.YtjjjfmnhdnajkaaGreatDoor
set_option linter.unusedVariables false
set_option linter.unusedSimpArgs false

/-- What a scan answers, and leaves: its error and the place. -/
def uS (s : ByteArray) (E : Int) (q : Nat) (n : Int) : Int × Int × Nat := if E ≠ 0 then (0, E, q) else (((rdU s q n).1 : Int), (rdU s q n).2.1, (rdU s q n).2.2)
def seS (s : ByteArray) (E : Int) (q : Nat) : Int × Int × Nat := if E ≠ 0 then (0, E, q) else (seVal (rdUk s q 0).1, (rdUk s q 0).2.1, (rdUk s q 0).2.2)
def rangeS (E : Int) (is : Bool) : Int := if E = 0 ∧ is = false then 3 else E
def rngS (s : ByteArray) (E : Int) (q : Nat) (most : Int) : Int × Int × Nat := ((ueS s E q).1, rangeS (ueS s E q).2.1 (decide ((ueS s E q).1 ≤ most)), (ueS s E q).2.2)
def sgnS (s : ByteArray) (E : Int) (q : Nat) (lo hi : Int) : Int × Int × Nat := ((seS s E q).1, rangeS (seS s E q).2.1 (inB (seS s E q).1 lo hi), (seS s E q).2.2)
def lstS (s : ByteArray) (m : Bool) (E : Int) (q : Nat) : List (Int × Int × Int) × Int × Nat := if E ≠ 0 then ([], E, q) else ((readI m s q).1, (readI m s q).2.1, (readI m s q).2.2)
theorem uS_zero (s : ByteArray) (q : Nat) (n : Int) : uS s 0 q n = (((rdU s q n).1 : Int), (rdU s q n).2.1, (rdU s q n).2.2) := by unfold uS; rw [if_neg (by simp)]
theorem uS_err (s : ByteArray) (E : Int) (q : Nat) (n : Int) (h : E ≠ 0) : uS s E q n = (0, E, q) := by unfold uS; rw [if_pos h]
theorem seS_zero (s : ByteArray) (q : Nat) : seS s 0 q = (seVal (rdUk s q 0).1, (rdUk s q 0).2.1, (rdUk s q 0).2.2) := by unfold seS; rw [if_neg (by simp)]
theorem seS_err (s : ByteArray) (E : Int) (q : Nat) (h : E ≠ 0) : seS s E q = (0, E, q) := by unfold seS; rw [if_pos h]
theorem lstS_zero (s : ByteArray) (m : Bool) (q : Nat) : lstS s m 0 q = ((readI m s q).1, (readI m s q).2.1, (readI m s q).2.2) := by unfold lstS; rw [if_neg (by simp)]
theorem lstS_err (s : ByteArray) (m : Bool) (E : Int) (q : Nat) (h : E ≠ 0) : lstS s m E q = ([], E, q) := by unfold lstS; rw [if_pos h]
theorem rangeS_err (E : Int) (b : Bool) (h : E ≠ 0) : rangeS E b = E := by unfold rangeS; rw [if_neg (fun k => h k.1)]
theorem rangeS_zero (b : Bool) : rangeS 0 b = if b = true then 0 else 3 := by cases b <;> rfl
theorem rngS_err (s : ByteArray) (E : Int) (q : Nat) (n : Int) (h : E ≠ 0) : rngS s E q n = (0, E, q) := by unfold rngS; rw [ueS_err s E q h]; simp only [rangeS_err E _ h]
theorem sgnS_err (s : ByteArray) (E : Int) (q : Nat) (a b : Int) (h : E ≠ 0) : sgnS s E q a b = (0, E, q) := by unfold sgnS; rw [seS_err s E q h]; simp only [rangeS_err E _ h]

theorem runH_snoc {σ : Type} (M : Mach σ) (un : UN) : ∀ (k j : Nat) (x : HV) (st : σ), runH M un (k + 1) j x st = thenF (runH M un k j x st) (fun x st => stepH M un (j + k) x st) := by
  intro k
  induction k with
  | zero =>
    intro j x st
    show thenF (stepH M un j x st) (fun x st => (0, x, st)) = stepH M un j x st
    generalize stepH M un j x st = r
    obtain ⟨r1, r2, r3⟩ := r
    unfold thenF
    by_cases h : r1 = 0
    · subst h; simp
    · simp [h]
  | succ k ih =>
    intro j x st
    rw [runH]
    conv => rhs; rw [runH]
    have e : j + (k + 1) = j + 1 + k := by omega
    rw [e]
    unfold thenF
    by_cases h : (stepH M un j x st).1 = 0
    · simp only [h, ne_eq, not_true_eq_false, if_false]
      rw [ih]
      rfl
    · simp only [h, ne_eq, not_false_eq_true, if_true]
/-- The fields up to j, behind a beginning that left e0. -/
def upTo (s : ByteArray) (un : UN) (e0 : Int) (x0 : HV) (q0 : Nat) (j : Nat) : Int × HV × Nat := if e0 ≠ 0 then (e0, x0, q0) else runH (rdM s) un j 0 x0 q0
theorem upTo_snoc (s : ByteArray) (un : UN) (e0 : Int) (x0 : HV) (q0 j : Nat) : upTo s un e0 x0 q0 (j + 1) = thenF (upTo s un e0 x0 q0 j) (fun x q => stepH (rdM s) un j x q) := by
  unfold upTo
  by_cases h : e0 = 0
  · rw [if_neg (fun k => k h), if_neg (fun k => k h), runH_snoc, Nat.zero_add]
  · rw [if_pos h, if_pos h]
    unfold thenF
    rw [if_pos h]
theorem trunc_up (i j : Nat) (h : j ≤ i) (x : HV) : trunc i (trunc j x) = trunc j x := by
  simp only [trunc, HV.mk.injEq, true_and]
  refine ⟨?_, ?_, ?_, ?_, ?_, ?_, ?_, ?_, ?_, ?_, ?_, ?_, ?_, ?_, ?_, ?_⟩
  all_goals
    split
    · rfl
    · rw [if_neg (by omega)]
/-- The reference's state behind the field j: its error, its header, its place. -/
structure RfOk (s : ByteArray) (un : UN) (e0 : Int) (x0 : HV) (q0 j : Nat) (E : Int) (x : HV) (q : Nat) : Prop where
  e : (upTo s un e0 x0 q0 j).1 = E
  v : E = 0 → upTo s un e0 x0 q0 j = (0, x, q) ∧ trunc j x = x
section
variable {s : ByteArray} {un : UN} {e0 E E' : Int} {x0 x x' : HV} {q0 q q' j : Nat}
theorem RfOk.take (h : RfOk s un e0 x0 q0 j E x q) (hE : E ≠ 0 → E' = E) (hs : E = 0 → trunc j x = x → (stepH (rdM s) un j x q).1 = E' ∧ (E' = 0 → stepH (rdM s) un j x q = (0, x', q') ∧ trunc (j + 1) x' = x')) : RfOk s un e0 x0 q0 (j + 1) E' x' q' := by
  obtain ⟨he, hv⟩ := h
  by_cases h0 : E = 0
  · obtain ⟨h1, h2⟩ := hv h0
    obtain ⟨h3, h4⟩ := hs h0 h2
    have e : upTo s un e0 x0 q0 (j + 1) = stepH (rdM s) un j x q := by
      rw [upTo_snoc, h1]; unfold thenF; rw [if_neg (by simp)]
    exact ⟨by rw [e]; exact h3, fun hz => ⟨by rw [e]; exact (h4 hz).1, (h4 hz).2⟩⟩
  · have e : upTo s un e0 x0 q0 (j + 1) = upTo s un e0 x0 q0 j := by
      rw [upTo_snoc]; unfold thenF; rw [if_pos (by rw [he]; exact h0)]
    have := hE h0
    subst this
    exact ⟨by rw [e]; exact he, fun hz => absurd hz h0⟩
theorem RfOk.skip (h : RfOk s un e0 x0 q0 j E x q) (hs : trunc j x = x → stepH (rdM s) un j x q = (0, x, q)) : RfOk s un e0 x0 q0 (j + 1) E x q :=
  h.take (fun _ => rfl) (fun h0 ht => ⟨by rw [hs ht]; exact h0.symm, fun _ => ⟨hs ht, by have := trunc_up (j + 1) j (by omega) x; rwa [ht] at this⟩⟩)
theorem numC_rdU (s : ByteArray) (q : Nat) (n : Int) (h1 : 0 ≤ n) (h2 : n ≤ 16) : numC (.u n) ((rdU s q n).1 : Int) = 0 := by
  obtain ⟨N, rfl⟩ := Int.eq_ofNat_of_zero_le h1
  refine numC_iff.2 ⟨by simp [Cd.lo], ?_⟩
  have hv : (rdU s q (N : Int)).1 < 2 ^ N := by
    unfold rdU
    have hp := Nat.two_pow_pos N
    split
    · exact hp
    · split
      · exact hp
      · simpa using valOf_lt s q N
  have e : (2 : Int) ^ N = ((2 ^ N : Nat) : Int) := by rw [Int.natCast_pow]; rfl
  simp only [Cd.hi, Int.ofNat_eq_natCast, Int.toNat_natCast]
  rw [e]
  omega
theorem numF_skip {M : Mach Nat} {has : Bool} {v : Int} {set : Int → HV} {c : Cd} {st : Nat} {x : HV} (h : has = false) (hv : v = 0) (hs : set v = x) : numF M has v set c st = (0, x, st) := by
  unfold numF
  rw [h, if_neg (by simp), if_pos hv, hs]
theorem flagF_skip {M : Mach Nat} {has v : Bool} {set : Bool → HV} {st : Nat} {x : HV} (h : has = false) (hv : v = false) (hs : set v = x) : flagF M has v set st = (0, x, st) := by
  unfold flagF
  rw [h, if_neg (by simp), if_pos hv, hs]
theorem lstF_skip {M : Mach Nat} {has m : Bool} {v : List (Int × Int × Int)} {set : List (Int × Int × Int) → HV} {st : Nat} {x : HV} (h : has = false) (hv : v = []) (hs : set v = x) : lstF M has m v set st = (0, x, st) := by
  unfold lstF
  rw [h, if_neg (by simp), if_pos hv, hs]
/-- A number of so many bits. -/
theorem RfOk.u (h : RfOk s un e0 x0 q0 j E x q) (n : Int) (h1 : 0 ≤ n) (h2 : n ≤ 16) (v : Int) (set : Int → HV) (hs : trunc j x = x → stepH (rdM s) un j x q = numF (rdM s) true v set (.u n) q) (ht : trunc j x = x → ∀ v, trunc (j + 1) (set v) = set v) :
    RfOk s un e0 x0 q0 (j + 1) (uS s E q n).2.1 (set (uS s E q n).1) (uS s E q n).2.2 := by
  refine h.take (fun h0 => by rw [uS_err _ _ _ _ h0]) (fun h0 htr => ?_)
  subst h0
  have e : stepH (rdM s) un j x q = ((rdU s q n).2.1, set (rdU s q n).1, (rdU s q n).2.2) := by
    rw [hs htr]
    simp only [numF, if_true, rdM, rdC]
    by_cases hz : (rdU s q n).2.1 = 0
    · simp only [hz, ne_eq, not_true_eq_false, if_false, numC_rdU s q n h1 h2]
    · simp only [hz, ne_eq, not_false_eq_true, if_true]
  rw [uS_zero, e]
  exact ⟨rfl, fun hz => ⟨by dsimp only at hz ⊢; rw [hz], ht htr _⟩⟩
/-- A bit. -/
theorem RfOk.bit (h : RfOk s un e0 x0 q0 j E x q) (v : Bool) (set : Bool → HV) (hs : trunc j x = x → stepH (rdM s) un j x q = flagF (rdM s) true v set q) (ht : trunc j x = x → ∀ v, trunc (j + 1) (set v) = set v) :
    RfOk s un e0 x0 q0 (j + 1) (uS s E q 1).2.1 (set (isOne (uS s E q 1).1)) (uS s E q 1).2.2 := by
  refine h.take (fun h0 => by rw [uS_err _ _ _ _ h0]) (fun h0 htr => ?_)
  subst h0
  have e : stepH (rdM s) un j x q = ((rdU s q 1).2.1, set (isOne (rdU s q 1).1), (rdU s q 1).2.2) := by
    rw [hs htr]
    simp only [flagF, if_true, rdM, rdC]
    by_cases hz : (rdU s q 1).2.1 = 0
    · simp only [hz, ne_eq, not_true_eq_false, if_false, numC_rdU s q 1 (by omega) (by omega)]
    · simp only [hz, ne_eq, not_false_eq_true, if_true]
  rw [uS_zero, e]
  exact ⟨rfl, fun hz => ⟨by dsimp only at hz ⊢; rw [hz], ht htr _⟩⟩
/-- A number from a to hi. -/
theorem RfOk.ue (h : RfOk s un e0 x0 q0 j E x q) (a most : Int) (v : Int) (set : Int → HV) (hs : trunc j x = x → stepH (rdM s) un j x q = numF (rdM s) true v set (.ue a (a + most)) q) (ht : trunc j x = x → ∀ v, trunc (j + 1) (set v) = set v) :
    RfOk s un e0 x0 q0 (j + 1) (rngS s E q most).2.1 (set (a + (rngS s E q most).1)) (rngS s E q most).2.2 := by
  refine h.take (fun h0 => by rw [rngS_err _ _ _ _ h0]) (fun h0 htr => ?_)
  subst h0
  have e : stepH (rdM s) un j x q = (rangeS (rdUk s q 0).2.1 (decide (((rdUk s q 0).1 : Int) ≤ most)), set (a + (rdUk s q 0).1), (rdUk s q 0).2.2) := by
    rw [hs htr]
    simp only [numF, if_true, rdM, rdC]
    by_cases hz : (rdUk s q 0).2.1 = 0
    · simp only [hz, ne_eq, not_true_eq_false, if_false, rangeS_zero]
      by_cases hm : ((rdUk s q 0).1 : Int) ≤ most
      · rw [if_pos (by simpa using hm), numC_iff.2 ⟨by simp only [Cd.lo]; omega, by simpa [Cd.hi] using hm⟩]
      · rw [if_neg (by simpa using hm)]
        unfold numC
        rw [if_pos (.inr (by simp only [Cd.hi]; omega))]
    · simp only [hz, ne_eq, not_false_eq_true, if_true, rangeS_err _ _ hz]
  unfold rngS
  rw [ueS_zero, e]
  exact ⟨rfl, fun hz => ⟨by dsimp only at hz ⊢; rw [hz], ht htr _⟩⟩
/-- A signed number. -/
theorem RfOk.se (h : RfOk s un e0 x0 q0 j E x q) (lo hi : Int) (v : Int) (set : Int → HV) (b : Int → Bool) (hb : ∀ v, b v = inB v lo hi) (hs : trunc j x = x → stepH (rdM s) un j x q = numF (rdM s) true v set (.se lo hi) q) (ht : trunc j x = x → ∀ v, trunc (j + 1) (set v) = set v) :
    RfOk s un e0 x0 q0 (j + 1) (rangeS (seS s E q).2.1 (b (seS s E q).1)) (set (seS s E q).1) (seS s E q).2.2 := by
  refine h.take (fun h0 => by rw [seS_err _ _ _ h0, rangeS_err _ _ h0]) (fun h0 htr => ?_)
  subst h0
  have e : stepH (rdM s) un j x q = (rangeS (rdUk s q 0).2.1 (b (seVal (rdUk s q 0).1)), set (seVal (rdUk s q 0).1), (rdUk s q 0).2.2) := by
    rw [hs htr]
    simp only [numF, if_true, rdM, rdC]
    by_cases hz : (rdUk s q 0).2.1 = 0
    · simp only [hz, ne_eq, not_true_eq_false, if_false, rangeS_zero, hb]
      by_cases hm : lo ≤ seVal (rdUk s q 0).1 ∧ seVal (rdUk s q 0).1 ≤ hi
      · rw [if_pos (by unfold inB; simp [hm.1, hm.2]), numC_iff.2 hm]
      · rw [if_neg (by unfold inB; simp only [Bool.and_eq_true, decide_eq_true_eq]; exact hm)]
        unfold numC
        rw [if_pos (by simp only [Cd.lo, Cd.hi]; omega)]
    · simp only [hz, ne_eq, not_false_eq_true, if_true, rangeS_err _ _ hz]
  rw [seS_zero, e]
  exact ⟨rfl, fun hz => ⟨by dsimp only at hz ⊢; rw [hz], ht htr _⟩⟩
/-- A list. -/
theorem RfOk.lst (h : RfOk s un e0 x0 q0 j E x q) (m : Bool) (v : List (Int × Int × Int)) (set : List (Int × Int × Int) → HV) (hs : trunc j x = x → stepH (rdM s) un j x q = lstF (rdM s) true m v set q) (ht : trunc j x = x → ∀ v, trunc (j + 1) (set v) = set v) :
    RfOk s un e0 x0 q0 (j + 1) (lstS s m E q).2.1 (set (lstS s m E q).1) (lstS s m E q).2.2 := by
  refine h.take (fun h0 => by rw [lstS_err _ _ _ _ h0]) (fun h0 htr => ?_)
  subst h0
  have e : stepH (rdM s) un j x q = ((readI m s q).2.1, set (readI m s q).1, (readI m s q).2.2) := by
    rw [hs htr]
    simp only [lstF, if_true, rdM]
  rw [lstS_zero, e]
  exact ⟨rfl, fun hz => ⟨by dsimp only at hz ⊢; rw [hz], ht htr _⟩⟩

theorem rf_frame (hs : okS un.s = true) (hp : okP un.p = true) (h : RfOk s un e0 x0 q0 0 E x q) : RfOk s un e0 x0 q0 1 (uS s E q un.s.fb).2.1 { x with fr := (uS s E q un.s.fb).1 } (uS s E q un.s.fb).2.2 :=
  h.u un.s.fb (unOk_cd hs hp).1.1 (unOk_cd hs hp).1.2 x.fr (fun v => { x with fr := v }) (fun _ => rfl) (fun ht v => by rw [← ht]; rfl)
theorem rf_idr (hi : un.idr = true) (h : RfOk s un e0 x0 q0 1 E x q) : RfOk s un e0 x0 q0 2 (rngS s E q 65535).2.1 { x with idr := (rngS s E q 65535).1 } (rngS s E q 65535).2.2 := by
  have := h.ue 0 65535 x.idr (fun v => { x with idr := v }) (fun _ => by rw [stepH, hi]; rfl) (fun ht v => by rw [← ht]; rfl)
  simpa only [Int.zero_add] using this
theorem rf_noidr (hi : un.idr = false) (h : RfOk s un e0 x0 q0 1 E x q) : RfOk s un e0 x0 q0 2 E x q :=
  h.skip (fun ht => by rw [stepH, hi, ← ht]; rfl)
theorem rf_poc (hs : okS un.s = true) (hp : okP un.p = true) (h : RfOk s un e0 x0 q0 2 E x q) : RfOk s un e0 x0 q0 3 (uS s E q un.s.pb).2.1 { x with poc := (uS s E q un.s.pb).1 } (uS s E q un.s.pb).2.2 :=
  h.u un.s.pb (unOk_cd hs hp).2.1.1 (unOk_cd hs hp).2.1.2 x.poc (fun v => { x with poc := v }) (fun _ => rfl) (fun ht v => by rw [← ht]; rfl)
theorem rf_over (hi : x.intra = false) (h : RfOk s un e0 x0 q0 3 E x q) : RfOk s un e0 x0 q0 4 (uS s E q 1).2.1 { x with over := isOne (uS s E q 1).1 } (uS s E q 1).2.2 :=
  h.bit x.over (fun v => { x with over := v }) (fun _ => by rw [stepH, hi]; rfl) (fun ht v => by rw [← ht]; rfl)
theorem rf_refs (hi : x.over = true) (h : RfOk s un e0 x0 q0 4 E x q) : RfOk s un e0 x0 q0 5 (rngS s E q 31).2.1 { x with refs := 1 + (rngS s E q 31).1 } (rngS s E q 31).2.2 :=
  h.ue 1 31 x.refs (fun v => { x with refs := v }) (fun _ => by rw [stepH, hi]; rfl) (fun ht v => by rw [← ht]; rfl)
theorem rf_norefs (hi : x.over = false) (h : RfOk s un e0 x0 q0 4 E x q) : RfOk s un e0 x0 q0 5 E x q :=
  h.skip (fun ht => by
    have e : x.refs = 0 := by rw [← ht]; rfl
    rw [stepH]; exact numF_skip hi e rfl)
theorem rf_listed (hi : x.intra = false) (h : RfOk s un e0 x0 q0 5 E x q) : RfOk s un e0 x0 q0 6 (uS s E q 1).2.1 { x with listed := isOne (uS s E q 1).1 } (uS s E q 1).2.2 :=
  h.bit x.listed (fun v => { x with listed := v }) (fun _ => by rw [stepH, hi]; rfl) (fun ht v => by rw [← ht]; rfl)
theorem rf_mods (hi : x.listed = true) (h : RfOk s un e0 x0 q0 6 E x q) : RfOk s un e0 x0 q0 7 (lstS s false E q).2.1 { x with mods := (lstS s false E q).1 } (lstS s false E q).2.2 :=
  h.lst false x.mods (fun v => { x with mods := v }) (fun _ => by rw [stepH, hi]) (fun ht v => by rw [← ht]; rfl)
theorem rf_nomods (hi : x.listed = false) (h : RfOk s un e0 x0 q0 6 E x q) : RfOk s un e0 x0 q0 7 E x q :=
  h.skip (fun ht => by
    have e : x.mods = [] := by rw [← ht]; rfl
    rw [stepH]; exact lstF_skip hi e rfl)
theorem rf_intra (hi : x.intra = true) (h : RfOk s un e0 x0 q0 3 E x q) : RfOk s un e0 x0 q0 7 E x q := by
  have h4 : RfOk s un e0 x0 q0 4 E x q := h.skip (fun ht => by
    have e : x.over = false := by rw [← ht]; rfl
    rw [stepH]; exact flagF_skip (by simp [hi]) e rfl)
  by_cases h0 : E = 0
  · have t4 := (h4.v h0).2
    have t3 := (h.v h0).2
    have o : x.over = false := by rw [← t3]; rfl
    have h5 := rf_norefs o h4
    have t5 := (h.v h0).2
    have h6 : RfOk s un e0 x0 q0 6 E x q := h5.skip (fun ht => by
      have e : x.listed = false := by rw [← ht]; rfl
      rw [stepH]; exact flagF_skip (by simp [hi]) e rfl)
    exact rf_nomods (by rw [← t3]; rfl) h6
  · exact (((h4.take (E' := E) (x' := x) (q' := q) (fun _ => rfl) (fun k => absurd k h0)).take (E' := E) (x' := x) (q' := q) (fun _ => rfl) (fun k => absurd k h0)).take (fun _ => rfl) (fun k => absurd k h0))
theorem rf_flags (hi : un.idr = true) (h : RfOk s un e0 x0 q0 7 E x q) {E1 : Int} {v1 : Int} {q1 : Nat} (h1 : uS s E q 1 = (v1, E1, q1)) :
    RfOk s un e0 x0 q0 8 (uS s E1 q1 1).2.1 { x with f0 := isOne v1, f1 := isOne (uS s E1 q1 1).1 } (uS s E1 q1 1).2.2 := by
  refine h.take (fun h0 => ?_) (fun h0 htr => ?_)
  · rw [uS_err _ _ _ _ h0] at h1
    cases h1
    rw [uS_err _ _ _ _ h0]
  · subst h0
    rw [uS_zero] at h1
    have c0 := numC_rdU s q 1 (by omega) (by omega)
    have hc1 : ∀ q, numC (.u 1) ((rdU s q 1).1 : Int) = 0 := fun q => numC_rdU s q 1 (by omega) (by omega)
    have key : ∀ (q : Nat) (v : Bool) (set : Bool → HV), flagF (rdM s) true v set q = ((rdU s q 1).2.1, set (isOne (rdU s q 1).1), (rdU s q 1).2.2) := by
      intro q v set
      simp only [flagF, if_true, rdM, rdC]
      by_cases hz : (rdU s q 1).2.1 = 0
      · simp only [hz, ne_eq, not_true_eq_false, if_false, hc1]
      · simp only [hz, ne_eq, not_false_eq_true, if_true]
    have e : stepH (rdM s) un 7 x q = thenF (E1, { x with f0 := isOne v1 }, q1) (fun x st => flagF (rdM s) un.idr x.f1 (fun v => { x with f1 := v }) st) := by
      rw [stepH_seven, hi, key]
      cases h1
      rfl
    rw [e]
    unfold thenF
    by_cases hz : E1 = 0
    · subst hz
      rw [if_neg (by simp)]
      simp only [hi, key]
      rw [uS_zero]
      exact ⟨rfl, fun hz => ⟨by dsimp only at hz ⊢; rw [hz], by rw [← htr]; rfl⟩⟩
    · rw [if_pos hz, uS_err _ _ _ _ hz]
      exact ⟨rfl, fun k => absurd k hz⟩
theorem rf_noflags (hi : un.idr = false) (h : RfOk s un e0 x0 q0 7 E x q) : RfOk s un e0 x0 q0 8 E x q :=
  h.skip (fun ht => by
    have e0 : x.f0 = false := by rw [← ht]; rfl
    have e1 : x.f1 = false := by rw [← ht]; rfl
    rw [stepH_seven, hi]
    unfold flagF thenF
    simp only [Bool.false_eq_true, if_false, e0, e1, if_true, ne_eq, not_true_eq_false]
    congr 2
    cases x
    simp only at e0 e1
    rw [e0, e1])
theorem rf_ad (hi : adH un = true) (h : RfOk s un e0 x0 q0 8 E x q) : RfOk s un e0 x0 q0 9 (uS s E q 1).2.1 { x with ad := isOne (uS s E q 1).1 } (uS s E q 1).2.2 :=
  h.bit x.ad (fun v => { x with ad := v }) (fun _ => by rw [stepH, hi]) (fun ht v => by rw [← ht]; rfl)
theorem rf_marks (hi : x.ad = true) (h : RfOk s un e0 x0 q0 9 E x q) : RfOk s un e0 x0 q0 10 (lstS s true E q).2.1 { x with marks := (lstS s true E q).1 } (lstS s true E q).2.2 :=
  h.lst true x.marks (fun v => { x with marks := v }) (fun _ => by rw [stepH, hi]) (fun ht v => by rw [← ht]; rfl)
theorem rf_nomarks (hi : x.ad = false) (h : RfOk s un e0 x0 q0 9 E x q) : RfOk s un e0 x0 q0 10 E x q :=
  h.skip (fun ht => by
    have e : x.marks = [] := by rw [← ht]; rfl
    rw [stepH]; exact lstF_skip hi e rfl)
theorem rf_noad (hi : adH un = false) (h : RfOk s un e0 x0 q0 8 E x q) : RfOk s un e0 x0 q0 10 E x q := by
  have h9 : RfOk s un e0 x0 q0 9 E x q := h.skip (fun ht => by
    have e : x.ad = false := by rw [← ht]; rfl
    rw [stepH]; exact flagF_skip (by simp [hi]) e rfl)
  by_cases h0 : E = 0
  · exact rf_nomarks (by rw [← (h.v h0).2]; rfl) h9
  · exact h9.take (fun _ => rfl) (fun k => absurd k h0)
theorem rf_ini (hi : iniH un x = true) (h : RfOk s un e0 x0 q0 10 E x q) : RfOk s un e0 x0 q0 11 (rngS s E q 2).2.1 { x with ini := (rngS s E q 2).1 } (rngS s E q 2).2.2 := by
  have := h.ue 0 2 x.ini (fun v => { x with ini := v }) (fun _ => by rw [stepH, hi]; rfl) (fun ht v => by rw [← ht]; rfl)
  simpa only [Int.zero_add] using this
theorem rf_noini (hi : iniH un x = false) (h : RfOk s un e0 x0 q0 10 E x q) : RfOk s un e0 x0 q0 11 E x q :=
  h.skip (fun ht => by
    have e : x.ini = 0 := by rw [← ht]; rfl
    rw [stepH]; exact numF_skip hi e rfl)
theorem rf_qp (h : RfOk s un e0 x0 q0 11 E x q) : RfOk s un e0 x0 q0 12 (rangeS (seS s E q).2.1 (inB (26 + un.p.qp + (seS s E q).1) 0 51)) { x with qp := (seS s E q).1 } (seS s E q).2.2 :=
  h.se (-(26 + un.p.qp)) (51 - (26 + un.p.qp)) x.qp (fun v => { x with qp := v }) (fun v => inB (26 + un.p.qp + v) 0 51) (fun v => by unfold inB; rw [Bool.eq_iff_iff]; simp only [Bool.and_eq_true, decide_eq_true_eq]; omega) (fun _ => rfl) (fun ht v => by rw [← ht]; rfl)
theorem rf_fil (hi : un.p.db = true) (h : RfOk s un e0 x0 q0 12 E x q) : RfOk s un e0 x0 q0 13 (rngS s E q 2).2.1 { x with fil := (rngS s E q 2).1 } (rngS s E q 2).2.2 := by
  have := h.ue 0 2 x.fil (fun v => { x with fil := v }) (fun _ => by rw [stepH, hi]; rfl) (fun ht v => by rw [← ht]; rfl)
  simpa only [Int.zero_add] using this
theorem rf_noflt (hi : fltH un x = false) (h : RfOk s un e0 x0 q0 13 E x q) : RfOk s un e0 x0 q0 15 E x q := by
  have h14 : RfOk s un e0 x0 q0 14 E x q := h.skip (fun ht => by
    have e : x.a = 0 := by rw [← ht]; rfl
    rw [stepH]; exact numF_skip hi e rfl)
  exact h14.skip (fun ht => by
    have e : x.b = 0 := by rw [← ht]; rfl
    rw [stepH]; exact numF_skip hi e rfl)
theorem rf_nofil (hi : un.p.db = false) (h : RfOk s un e0 x0 q0 12 E x q) : RfOk s un e0 x0 q0 15 E x q := by
  have h13 : RfOk s un e0 x0 q0 13 E x q := h.skip (fun ht => by
    have e : x.fil = 0 := by rw [← ht]; rfl
    rw [stepH]; exact numF_skip hi e rfl)
  exact rf_noflt (by unfold fltH; rw [hi]; rfl) h13
theorem rf_a (hi : fltH un x = true) (h : RfOk s un e0 x0 q0 13 E x q) : RfOk s un e0 x0 q0 14 (sgnS s E q (-6) 6).2.1 { x with a := (sgnS s E q (-6) 6).1 } (sgnS s E q (-6) 6).2.2 :=
  h.se (-6) 6 x.a (fun v => { x with a := v }) (fun v => inB v (-6) 6) (fun _ => rfl) (fun _ => by rw [stepH, hi]) (fun ht v => by rw [← ht]; rfl)
theorem rf_b (hi : fltH un x = true) (h : RfOk s un e0 x0 q0 14 E x q) : RfOk s un e0 x0 q0 15 (sgnS s E q (-6) 6).2.1 { x with b := (sgnS s E q (-6) 6).1 } (sgnS s E q (-6) 6).2.2 :=
  h.se (-6) 6 x.b (fun v => { x with b := v }) (fun v => inB v (-6) 6) (fun _ => rfl) (fun _ => by rw [stepH, hi]) (fun ht v => by rw [← ht]; rfl)
end
theorem readT_eq' (s : ByteArray) (rb : Int × UN × HV × Nat) : readT s rb = if rb.1 ≠ 0 then (rb.1, h0, 0) else runH (rdM s) rb.2.1 15 0 rb.2.2.1 rb.2.2.2 := by
  unfold readT
  by_cases h : rb.1 = 0
  · rw [if_neg (fun k => k h), if_neg (fun k => k h)]
    generalize runH (rdM s) rb.2.1 15 0 rb.2.2.1 rb.2.2.2 = r
    obtain ⟨a, b, c⟩ := r
    unfold thenF
    by_cases ha : a = 0
    · subst ha; simp
    · rw [if_pos ha]
  · rw [if_pos h, if_pos h]
/-- The kinds that there are. -/
def kindOk (k : Int) : Bool := decide (k = 0) || (decide (k = 2) || (decide (k = 5) || decide (k = 7)))
/-- The beginning: an error; what the header has. -/
theorem rbegin_of {s : ByteArray} {pos : Nat} {ref : Int} {idr : Bool} {f : Int → Option SV} {g : Int → Option PV} {v1 v2 v3 E1 E2 E5 : Int} {q1 q2 q3 : Nat} (h1 : ueS s 0 pos = (v1, E1, q1)) (h2 : ueS s E1 q1 = (v2, E2, q2))
    (h3 : ueS s (kindS (kindS E2 (kindOk v2)) (!idr || decide (v2 % 5 = 2))) q2 = (v3, E5, q3)) :
    (E5 ≠ 0 → (readB s pos ref idr f g).1 = E5) ∧
    (E5 = 0 → ((getR f g v3).2.2 ≠ 0 → (readB s pos ref idr f g).1 = (getR f g v3).2.2) ∧
      ((getR f g v3).2.2 = 0 → readB s pos ref idr f g = (numC (firstC ⟨ref, idr, (getR f g v3).1, (getR f g v3).2.1⟩) v1, ⟨ref, idr, (getR f g v3).1, (getR f g v3).2.1⟩, { h0 with fi := v1, intra := decide (v2 % 5 = 2), whole := decide (5 ≤ v2), pps := v3 }, q3))) := by
  rw [ueS_zero] at h1
  obtain ⟨a1, b1, c1, x1⟩ : ∃ v e q, rdUk s pos 0 = (v, e, q) := ⟨_, _, _, rfl⟩
  rw [x1] at h1
  simp only [Prod.mk.injEq] at h1
  obtain ⟨rfl, rfl, rfl⟩ := h1
  unfold readB
  rw [x1]
  dsimp only
  by_cases d1 : ¬ b1 = 0
  · rw [ueS_err _ _ _ d1] at h2
    simp only [Prod.mk.injEq] at h2
    obtain ⟨rfl, rfl, rfl⟩ := h2
    have k1 : kindS b1 (kindOk 0) = b1 := by unfold kindS; rw [if_neg (fun k => d1 k.1)]
    have k2 : ∀ b, kindS b1 b = b1 := fun b => by unfold kindS; rw [if_neg (fun k => d1 k.1)]
    rw [k1, k2, ueS_err _ _ _ d1] at h3
    simp only [Prod.mk.injEq] at h3
    obtain ⟨rfl, rfl, rfl⟩ := h3
    refine ⟨fun _ => ?_, fun k => absurd k d1⟩
    rw [if_pos d1]
  replace d1 := Classical.not_not.1 d1
  subst d1
  rw [if_neg (by simp)]
  rw [ueS_zero] at h2
  obtain ⟨a2, b2, c2, x2⟩ : ∃ v e q, rdUk s c1 0 = (v, e, q) := ⟨_, _, _, rfl⟩
  rw [x2] at h2
  simp only [Prod.mk.injEq] at h2
  obtain ⟨rfl, rfl, rfl⟩ := h2
  rw [x2]
  dsimp only
  by_cases d2 : ¬ b2 = 0
  · have k2 : ∀ b, kindS b2 b = b2 := fun b => by unfold kindS; rw [if_neg (fun k => d2 k.1)]
    rw [k2, k2, ueS_err _ _ _ d2] at h3
    simp only [Prod.mk.injEq] at h3
    obtain ⟨rfl, rfl, rfl⟩ := h3
    refine ⟨fun _ => ?_, fun k => absurd k d2⟩
    rw [if_pos d2]
  replace d2 := Classical.not_not.1 d2
  subst d2
  rw [if_neg (by simp)]
  have kk : (kindS (kindS 0 (kindOk (a2 : Int))) (!idr || decide ((a2 : Int) % 5 = 2)) = (kindR idr a2).1) ∧ ((kindR idr a2).1 = 0 → (kindR idr a2).2.1 = decide ((a2 : Int) % 5 = 2) ∧ (kindR idr a2).2.2 = decide (5 ≤ (a2 : Int))) := by
    unfold kindR kindOk
    by_cases e1 : a2 = 0 ∨ a2 = 5
    · rcases e1 with rfl | rfl <;> cases idr <;> decide
    · by_cases e2 : a2 = 2 ∨ a2 = 7
      · rcases e2 with rfl | rfl <;> cases idr <;> decide
      · rw [if_neg e1, if_neg e2]
        have f1 : decide ((a2 : Int) = 0) = false := decide_eq_false (by omega)
        have f2 : decide ((a2 : Int) = 2) = false := decide_eq_false (by omega)
        have f3 : decide ((a2 : Int) = 5) = false := decide_eq_false (by omega)
        have f4 : decide ((a2 : Int) = 7) = false := decide_eq_false (by omega)
        rw [f1, f2, f3, f4]
        refine ⟨?_, fun h => absurd h (by decide)⟩
        generalize (!idr || decide ((a2 : Int) % 5 = 2)) = bb
        cases bb <;> rfl
  rw [kk.1] at h3
  by_cases d3 : ¬ (kindR idr a2).1 = 0
  · rw [ueS_err _ _ _ d3] at h3
    simp only [Prod.mk.injEq] at h3
    obtain ⟨rfl, rfl, rfl⟩ := h3
    refine ⟨fun _ => ?_, fun k => absurd k d3⟩
    rw [if_pos d3]
    have : (kindR idr a2).1 = 9 := by
      revert d3
      unfold kindR
      split
      · cases idr <;> simp
      · split <;> simp
    exact this.symm
  replace d3 := Classical.not_not.1 d3
  rw [if_neg (fun k => k d3)]
  rw [d3, ueS_zero] at h3
  obtain ⟨a3, b3, c3, x3⟩ : ∃ v e q, rdUk s c2 0 = (v, e, q) := ⟨_, _, _, rfl⟩
  rw [x3] at h3
  simp only [Prod.mk.injEq] at h3
  obtain ⟨rfl, rfl, rfl⟩ := h3
  rw [x3]
  dsimp only
  by_cases d4 : ¬ b3 = 0
  · refine ⟨fun _ => ?_, fun k => absurd k d4⟩
    rw [if_pos d4]
  replace d4 := Classical.not_not.1 d4
  subst d4
  refine ⟨fun k => absurd rfl k, fun _ => ⟨fun k => ?_, fun k => ?_⟩⟩
  · rw [if_neg (by simp), if_pos k]
  · rw [if_neg (by simp), if_neg (fun z => z k), (kk.2 d3).1, (kk.2 d3).2]
theorem rf_start {s : ByteArray} {un : UN} {e0 : Int} {x0 : HV} {q0 : Nat} (ht : trunc 0 x0 = x0) : RfOk s un e0 x0 q0 0 e0 x0 q0 := by
  refine ⟨?_, fun h => ?_⟩
  · unfold upTo
    by_cases h : e0 = 0
    · rw [if_neg (fun k => k h), h]; rfl
    · rw [if_pos h]
  · unfold upTo
    rw [if_neg (fun k => k h)]
    exact ⟨rfl, ht⟩
/-- The end. -/
theorem rf_end {s : ByteArray} {pos : Nat} {ref : Int} {idr : Bool} {f : Int → Option SV} {g : Int → Option PV} {un : UN} {e0 E : Int} {x0 x : HV} {q0 q : Nat} (hu : ref ≤ 3 ∧ (0 < ref ∨ idr = false)) (hb : readB s pos ref idr f g = (e0, un, x0, q0)) (h : RfOk s un e0 x0 q0 15 E x q) :
    readH s pos ref idr f g = if E ≠ 0 then (E, h0, pos) else (0, x, q) := by
  obtain ⟨h1, h2⟩ := h
  unfold readH
  rw [if_neg (fun k => k hu), readT_eq', hb]
  dsimp only
  by_cases d : e0 = 0
  · subst d
    simp only [ne_eq, not_true_eq_false, if_false]
    have e : upTo s un 0 x0 q0 15 = runH (rdM s) un 15 0 x0 q0 := by unfold upTo; rw [if_neg (by simp)]
    rw [e] at h1 h2
    rw [h1]
    by_cases dz : E = 0
    · simp only [dz, not_true_eq_false, if_false]
      exact (h2 dz).1
    · simp only [dz, not_false_eq_true, if_true]
  · have e : upTo s un e0 x0 q0 15 = (e0, x0, q0) := by unfold upTo; rw [if_pos d]
    rw [e] at h1
    dsimp only at h1
    subst h1
    rw [if_pos d, if_pos d, if_pos d]
theorem rb_err {s : ByteArray} {pos : Nat} {ref : Int} {idr : Bool} {f : Int → Option SV} {g : Int → Option PV} {E : Int} (hu : ref ≤ 3 ∧ (0 < ref ∨ idr = false)) (hb : (readB s pos ref idr f g).1 = E) (hE : E ≠ 0) : readH s pos ref idr f g = (E, h0, pos) := by
  unfold readH
  rw [if_neg (fun k => k hu), readT_eq', hb, if_pos hE, if_pos hE]
end Go.Proofs.YtjjjfmnhdnajkaaGreatDoor

end
section
set_option maxRecDepth 20000
namespace Go.Proofs.YtjjjfmnhdnajkaaGreatDoor
open Go.RowKit
set_option linter.unusedVariables false

/-- Between two rounds. -/
structure RdS (w1 wr : World) (D c : Nat) (s : ByteArray) (q : Nat) (E : Int) (out : Value) (done : List (Int × Int × Int)) : Prop where
  sc : Sc wr D c E
  rd : Rd wr c s q
  row : RowM wr out done
  only : Only [c, D] w1 wr
  own : ∀ g, g ∈ ownOf out → w1.heap.size ≤ g
theorem RdS.drewN {w1 wr : World} {D c : Nat} {s : ByteArray} {q : Nat} {E : Int} {out : Value} {done : List (Int × Int × Int)} (h : RdS w1 wr D c s q E out done) (n : Nat) : RdS w1 (wr.drewN n) D c s q E out done :=
  ⟨h.sc.drewN n, h.rd.drewN n, h.row.only ((Only.refl [] _).drewN n) (by simp), h.only.drewN n, h.own⟩
/-- A step that changes the scan and its reader alone. -/
theorem RdS.step {w1 wr w2 : World} {D c : Nat} {s : ByteArray} {q q' : Nat} {E E' : Int} {out : Value} {done : List (Int × Int × Int)} (h : RdS w1 wr D c s q E out done) (hD : D < w1.heap.size) (hc : c < w1.heap.size) (k1 : Sc w2 D c E') (k2 : Rd w2 c s q') (k3 : Only [c, D] wr w2) : RdS w1 w2 D c s q' E' out done :=
  ⟨k1, k2, h.row.only k3 (fun g hg => by have := h.own g hg; simp; omega), h.only.trans k3, h.own⟩

/-- A step that changes another block alone. -/
theorem RdS.other {w1 wr w2 : World} {D c M : Nat} {s : ByteArray} {q : Nat} {E : Int} {out : Value} {done : List (Int × Int × Int)} (h : RdS w1 wr D c s q E out done) (k : Only [M] wr w2) (hM : w1.heap.size ≤ M) (hc : c < M) (hD : D < M) (ho : M ∉ ownOf out) : RdS w1 w2 D c s q E out done :=
  ⟨h.sc.only k (by simp; omega), h.rd.only k (by simp; omega), h.row.only k (fun g hg => by simp; exact fun e => ho (e ▸ hg)), h.only.trans2 k (fun x hx => .inr (by rw [List.mem_singleton.1 hx]; exact hM)), h.own⟩
/-- The command that is being read. -/
structure Mc (w : World) (M : Nat) (x : Int × Int × Int) : Prop where
  c0 : w.cell? ⟨M, 0, none⟩ = some (.int .u8 x.1)
  c1 : w.cell? ⟨M, 1, none⟩ = some (.int .i64 x.2.1)
  c2 : w.cell? ⟨M, 2, none⟩ = some (.int .i64 x.2.2)
  f1 : w.frozen? ⟨M, 1, none⟩ = false
  f2 : w.frozen? ⟨M, 2, none⟩ = false
theorem Mc.only {S : List Nat} {w w' : World} {M : Nat} {x : Int × Int × Int} (h : Mc w M x) (k : Only S w w') (hM : M ∉ S) : Mc w' M x :=
  have hl : M < w.heap.size := World.block_lt_of_cell? _ _ h.c0
  ⟨k.cell h.c0 hM, k.cell h.c1 hM, k.cell h.c2 hM, (k.frozen hl hM).trans h.f1, (k.frozen hl hM).trans h.f2⟩
theorem Mc.set1 {w : World} {M : Nat} {a x y : Int} (h : Mc w M (a, x, y)) (z : Int) : Mc (w.setCell ⟨M, 1, none⟩ (.int .i64 z)) M (a, z, y) :=
  ⟨by rw [World.cell?_setCell_other _ _ _ _ (by simp)]; exact h.c0, World.cell?_setCell_same _ _ _ h.c1, by rw [World.cell?_setCell_other _ _ _ _ (by simp)]; exact h.c2, by simp [h.f1], by simp [h.f2]⟩
theorem Mc.set2 {w : World} {M : Nat} {a x y : Int} (h : Mc w M (a, x, y)) (z : Int) : Mc (w.setCell ⟨M, 2, none⟩ (.int .i64 z)) M (a, x, z) :=
  ⟨by rw [World.cell?_setCell_other _ _ _ _ (by simp)]; exact h.c0, by rw [World.cell?_setCell_other _ _ _ _ (by simp)]; exact h.c1, World.cell?_setCell_same _ _ _ h.c2, by simp [h.f1], by simp [h.f2]⟩

set_option maxRecDepth 100000 in
set_option maxHeartbeats 2000000 in
theorem rread9_any (m : Bool) (b : Nat) (s : ByteArray) (pos : Nat) (w : World) (h : Rd w b s pos) :
    Calls Tryz.prog 124 #[.pointer (some ⟨b, 0, none⟩), .bool m] w fun e w' => ∃ sv, e = .returned (.tuple #[sv, .int .i64 (readI m s pos).2.1]) ∧ HoldsM w' sv (readI m s pos).1 ∧ Rd w' b s (readI m s pos).2.2 ∧ Only [b] w w' ∧ FreshM w sv (readI m s pos).1 := by
  have H := hid h
  have hlt := h.lt
  have hle := h.le
  have CP := hid (rcopy_any b s pos w h)
  obtain ⟨T, hT⟩ : ∃ T, T = readF m s 66 pos := ⟨_, rfl⟩
  have e : readI m s pos = (T.1, T.2.1, if T.2.1 = 0 then T.2.2 else pos) := by rw [hT]; rfl
  rw [e]
  have TT := hid hT
  clear hT e h
  go_enter Tryz.func124, Tryz.ntmps124
  go_wp2_with fail
  refine CP.out.mono ?_
  rintro e w1 ⟨rfl, hR1, hO1⟩
  obtain ⟨c, hc⟩ : ∃ c, c = w.heap.size := ⟨_, rfl⟩
  rw [← hc] at hR1 ⊢
  have hlc := hR1.lt
  have R1 := hid hR1
  have O1 := hid hO1
  have HC := hid hc
  have hbc : b < c := by omega
  clear hR1 hO1 hc CP
  go_wp2_with fail
  generalize hw2 : w1.alloc _ = w2
  have O2 := hid (show Only [] w1 w2 from hw2 ▸ (Only.refl [] w1).alloc _)
  obtain ⟨D, hD⟩ : ∃ D, D = w1.heap.size := ⟨_, rfl⟩
  have S2 := hid (show Sc w2 D c 0 from by rw [← hw2, hD]; exact ⟨by simp, by simp, by simp⟩)
  have R2 := hid (R1.out.only O2.out (by simp))
  have hDl : D < w2.heap.size := S2.out.lt
  have hcl : c < w2.heap.size := R2.out.lt
  have hDc : D ≠ c := by omega
  have hbD : b ≠ D := by omega
  have hbc' : b ≠ c := by omega
  have OW := hid (O1.out.trans O2.out)
  have RB := hid (H.out.only OW.out (by simp))
  have HC1 := hid (show w.heap.size ≤ c ∧ w.heap.size ≤ D by have := HC.out; omega)
  rw [← hD]
  clear hw2 hD R1 O1 O2 HC hbc hlc hlt
  go_loopg [7] 66 (fun g t wr => ∃ (q : Nat) (done : List (Int × Int × Int)), RdS w2 wr D c s q 0 t done ∧ g + done.length = 66 ∧ T = joinT done (readF m s g q))
  case atStart => exact ⟨pos, [], ⟨S2.out, R2.out, RowM.nil _, Only.refl _ _, by simp [ownOf, Value.ownBlock]⟩, rfl, by rw [joinT_readF]; exact TT.out⟩
  case round =>
    obtain ⟨q, done, hS, hk, hT⟩ := hrel
    have S := hid hS
    have K := hid hk
    have TK := hid hT
    have dl : done.length ≤ 66 := by omega
    have hql := hS.rd.le
    have UE := hid (fun w h hr => sue_any D c s q 0 w h hr hDc)
    have EN := hid (fun w => rend9_any m w)
    obtain ⟨v, e1, q1, hU⟩ : ∃ v e1 q1, ueS s 0 q = (v, e1, q1) := ⟨_, _, _, rfl⟩
    rw [hU] at UE
    have HU := hid hU
    clear hS hk hT hU
    obtain ⟨S0, _, _, _, _⟩ := S.out
    go_wp2_with fail
    refine (UE.out _ S.out.sc S.out.rd).mono ?_
    rintro e w3 ⟨rfl, hS3, hR3, hO3⟩
    have S3 := hid (S.out.step hDl hcl hS3 hR3 hO3)
    obtain ⟨r0, r1, r2⟩ := hS3
    clear hR3 hO3 S S0
    by_cases hE : e1 = 0 ∧ v = (endN m : Nat)
    · obtain ⟨rfl, rfl⟩ := hE
      have E := readF_end (m := m) (s := s) (k := gk) (q := q) (step_end' HU.out rfl rfl)
      have TK := TK.out
      rw [E, joinT_join, List.append_nil] at TK
      have E2 : T = (done, 0, q1) := by rw [TK]; simp [joinT]
      obtain ⟨_, p1, _, pl, _⟩ := S3.out.rd
      have RB3 := hid (RB.out.only S3.out.only (by simp; exact ⟨hbc', hbD⟩))
      have bp := RB3.out.hp
      have bf := RB3.out.hf
      have PL := hid pl
      subst E2
      clear E TK HU UE pl
      go_wp2_with fail
      refine (EN.out _).mono ?_
      rintro e w4 ⟨rfl, rfl⟩
      clear EN
      go_wp2_with fail
      go_ret2
      refine ⟨u7, rfl, (S3.out.row.only ((Only.refl [b] _).setCell (.inl (by simp)) _) (fun g hg => ?_)).holds, RB3.out.set q1 PL.out, ?_, freshM_own fun g hg => Nat.le_trans OW.out.size (S3.out.own g hg)⟩
      · have := S3.out.own g hg
        have := RB.out.lt
        simp
        omega
      · exact ((OW.out.trans2 S3.out.only (fun x hx => .inr (by have := HC1.out; simp at hx; omega))).mono (fun _ _ h => by cases h)).trans ((Only.refl [b] _).setCell (.inl (by simp)) _)
    · have HE := hid hE
      have NE : e1 = 0 → (v == ((endN m : Nat) : Int)) = false := fun e => by rw [beq_eq_false_iff_ne]; exact fun f => hE ⟨e, f⟩
      have HS := hid (fun w => rhas_any m v w)
      have KD := hid (fun is w h => skind_any D c e1 is w h)
      obtain ⟨nn, is, hh⟩ : ∃ nn is, hasI m v = (nn, is) := ⟨_, _, rfl⟩
      have HNN := hasI_n (m := m) (op := v)
      rw [hh] at HS HNN
      have HH := hid hh
      obtain ⟨ua, uc, hu, _, _, _⟩ := S3.out.row.holds
      subst hu
      clear hh hE UE
      go_upto_region 6 with fail
      go_cut [30] (fun s30 wx => s30 = .bool false ∧ wx = w3)
      case first =>
        by_cases he : e1 = 0
        · have ne := NE he
          subst he
          clear NE
          go_wp2_with fail
          refine (EN.out _).mono ?_
          rintro e w4 ⟨rfl, rfl⟩
          go_wp2_with fail
          go_meet
          exact ⟨rfl, rfl⟩
        · go_wp2_with fail
          go_meet
          exact ⟨rfl, rfl⟩
      case rest =>
        obtain ⟨rfl, rfl⟩ := hcut
        clear NE EN
        go_wp2_with fail
        refine (HS.out _).mono ?_
        rintro e w4 ⟨rfl, rfl⟩
        clear HS
        go_wp2_with fail
        refine (KD.out is _ S3.out.sc).mono ?_
        rintro e w4 ⟨⟨vv, rfl⟩, hS4, hO4⟩
        have S4 := hid (S3.out.step hDl hcl hS4 (S3.out.rd.only hO4 (by simpa using fun h => hDc h.symm)) (hO4.mono (fun k _ h => by simp at h; simp [h])))
        obtain ⟨t0, t1, t2⟩ := hS4
        clear hO4 S3 r0 r1 r2 KD
        obtain ⟨E2, hE2⟩ : ∃ E2, E2 = kindS e1 is := ⟨_, rfl⟩
        rw [← hE2] at S4 t1
        have HE2 := hid hE2
        clear hE2
        go_upto_region 11 with fail
        go_cut [60] (fun s60 wx => s60 = .bool (decide (E2 = 0 ∧ done.length = 66)) ∧ wx = w4)
        case first =>
          by_cases he : E2 = 0
          · by_cases hf : done.length = 66
            · have hf' : (done.length : Int) = 66 := by omega
              have dd : decide (E2 = 0 ∧ done.length = 66) = true := by simp [he, hf]
              have dd := hid dd
              rw [he] at t1
              go_wp2_with fail
              go_meet
              exact ⟨by rw [dd.out], rfl⟩
            · have hf' : ((done.length : Int) == 66) = false := by rw [beq_eq_false_iff_ne]; omega
              have dd : decide (E2 = 0 ∧ done.length = 66) = false := by simp [he, hf]
              have dd := hid dd
              rw [he] at t1
              clear hf
              go_wp2_with fail
              go_meet
              exact ⟨by rw [dd.out], rfl⟩
          · have dd : decide (E2 = 0 ∧ done.length = 66) = false := by simp [he]
            have dd := hid dd
            go_wp2_with fail
            go_meet
            exact ⟨by rw [dd.out], rfl⟩
        case rest =>
          obtain ⟨rfl, rfl⟩ := hcut
          go_upto_if 60 with fail
          go_cut [] (fun wx => RdS w2 wx D c s q1 (fullS E2 (decide (done.length = 66))) (.slice ua done.length uc) done)
          case first =>
            by_cases hf : E2 = 0 ∧ done.length = 66
            · obtain ⟨f1, f2⟩ := hf
              have ff : fullS E2 (decide (done.length = 66)) = 6 := by simp [fullS, f1, f2]
              have dd : decide (E2 = 0 ∧ done.length = 66) = true := by simp [f1, f2]
              have ff := hid ff
              rw [dd]
              clear dd f1 f2
              go_wp2_with fail
              go_meet
              rw [ff.out]
              exact S4.out.step hDl hcl (S4.out.sc.set 6) (S4.out.rd.only ((Only.refl [D] _).setCell (.inl (by simp)) _) (by simpa using fun h => hDc h.symm)) (((Only.refl [D] _).setCell (.inl (by simp)) _).mono (fun k _ h => by simp at h; simp [h]))
            · have ff : fullS E2 (decide (done.length = 66)) = E2 := by
                unfold fullS
                rw [if_neg]
                simpa using hf
              have dd : decide (E2 = 0 ∧ done.length = 66) = false := by simpa using hf
              have ff := hid ff
              rw [dd]
              clear dd hf
              go_wp2_with fail
              go_meet
              rw [ff.out]
              exact S4.out
          case rest =>
            rename_i w5
            obtain ⟨E3, hE3⟩ : ∃ E3, E3 = fullS E2 (decide (done.length = 66)) := ⟨_, rfl⟩
            rw [← hE3] at hcut
            have S5 := hid hcut
            have HE3 := hid hE3
            clear hE3 hcut t0 t1 t2 S4
            go_upto_if 68 with fail
            generalize hw6 : wc.alloc _ = w6
            obtain ⟨M, hM⟩ : ∃ M, M = wc.heap.size := ⟨_, rfl⟩
            have O6 := (show Only [M] wc w6 from hw6 ▸ ((Only.refl [] wc).alloc _).mono (by simp))
            have M6 := hid (show Mc w6 M (v % 256, 0, 0) from by rw [← hw6, hM]; exact ⟨by simp, by simp, by simp, by simp, by simp⟩)
            have hMg : ∀ g, g ∈ ownOf (.slice ua done.length uc) → g < M := fun g hg => by rw [hM]; exact S5.out.row.lt g hg
            have hMw : w2.heap.size ≤ M := by rw [hM]; exact S5.out.only.size
            have hMc : c < M := by omega
            have hMD : D < M := by omega
            have hMo : M ∉ ownOf (.slice ua done.length uc) := fun h => Nat.lt_irrefl _ (hMg M h)
            have S6 := hid (S5.out.other O6 hMw hMc hMD hMo)
            rw [← hM]
            clear hw6 hM O6 S5
            obtain ⟨a, ha⟩ : ∃ a, a = optS s (decide (0 < nn)) E3 q1 := ⟨_, rfl⟩
            have HA := hid ha
            go_cut [] (fun wx => RdS w2 wx D c s a.2.2 a.2.1 (.slice ua done.length uc) done ∧ Mc wx M (v % 256, a.1, 0))
            case first =>
              have HU := hid (fun w h hr => sue_any D c s q1 E3 w h hr hDc)
              by_cases hn : 0 < nn
              · have ea : a = ueS s E3 q1 := by rw [ha]; simp [optS, hn]
                rw [← ea] at HU
                clear ha ea
                go_wp2_with fail
                refine (HU.out _ S6.out.sc S6.out.rd).mono ?_
                rintro e w7 ⟨rfl, hS7, hR7, hO7⟩
                have S7 := hid (S6.out.step hDl hcl hS7 hR7 hO7)
                have M7 := hid (M6.out.only hO7 (by simp; omega))
                have k1 := M7.out.c1
                have k2 := M7.out.f1
                clear hS7 hR7 hO7
                go_wp2_with fail
                go_meet
                exact ⟨S7.out.other ((Only.refl [M] _).setCell (.inl (by simp)) _) hMw hMc hMD hMo, M7.out.set1 _⟩
              · have ea : a = (0, E3, q1) := by rw [ha]; simp [optS, hn]
                have EA := hid ea
                clear ha ea
                go_wp2_with fail
                go_meet
                rw [EA.out]
                exact ⟨S6.out, M6.out⟩
            case rest =>
              obtain ⟨hS7, hM7⟩ := hcut
              have S7 := hid hS7
              have M7 := hid hM7
              clear hS7 hM7 S6 M6 ha
              go_upto_if 73 with fail
              obtain ⟨b9, hb⟩ : ∃ b9, b9 = optS s (decide (1 < nn)) a.2.1 a.2.2 := ⟨_, rfl⟩
              have HB := hid hb
              go_cut [] (fun wx => RdS w2 wx D c s b9.2.2 b9.2.1 (.slice ua done.length uc) done ∧ Mc wx M (v % 256, a.1, b9.1))
              case first =>
                have HU := hid (fun w h hr => sue_any D c s a.2.2 a.2.1 w h hr hDc)
                by_cases hn : 1 < nn
                · have ea : b9 = ueS s a.2.1 a.2.2 := by rw [hb]; simp [optS, hn]
                  rw [← ea] at HU
                  clear hb ea
                  go_wp2_with fail
                  refine (HU.out _ S7.out.sc S7.out.rd).mono ?_
                  rintro e w8 ⟨rfl, hS8, hR8, hO8⟩
                  have S8 := hid (S7.out.step hDl hcl hS8 hR8 hO8)
                  have M8 := hid (M7.out.only hO8 (by simp; omega))
                  have k1 := M8.out.c2
                  have k2 := M8.out.f2
                  clear hS8 hR8 hO8
                  go_wp2_with fail
                  go_meet
                  exact ⟨S8.out.other ((Only.refl [M] _).setCell (.inl (by simp)) _) hMw hMc hMD hMo, M8.out.set2 _⟩
                · have ea : b9 = (0, a.2.1, a.2.2) := by rw [hb]; simp [optS, hn]
                  have EA := hid ea
                  clear hb ea
                  go_wp2_with fail
                  go_meet
                  rw [EA.out]
                  exact ⟨S7.out, M7.out⟩
              case rest =>
                obtain ⟨hS8, hM8⟩ := hcut
                have S8 := hid hS8
                have M8 := hid hM8
                obtain ⟨t0, t1, t2⟩ := hS8.sc
                clear hS8 S7 M7 hb
                have hgk : decide (gk = 0) = decide (done.length = 66) := by rw [decide_eq_decide]; have := K.out; omega
                have SB := step_by (m := m) (full := decide (gk = 0)) HU.out HE.out (a := a) (b := b9) (by rw [HH.out, hgk, ← HE2.out, ← HE3.out]; exact HA.out) (by rw [HH.out]; exact HB.out)
                by_cases hE : b9.2.1 = 0
                · rw [if_neg (fun x => x hE)] at SB
                  have hg0 : gk ≠ 0 := by
                    intro h
                    rw [h] at SB
                    exact step_full SB
                  obtain ⟨k, rfl⟩ : ∃ k, gk = k + 1 := ⟨gk - 1, by omega⟩
                  have SB' : stepI m s false q = (0, some (v, a.1, b9.1), b9.2.2) := by rw [← SB]; simp
                  have TK := TK.out
                  rw [readF_more SB', joinT_join] at TK
                  have NX := hid TK
                  have hi : (hasI m v).2 = true ∧ 0 ≤ v ∧ v ≤ 6 := by
                    rcases step_back (o := some (v, a.1, b9.1)) hql SB' with ⟨f, _⟩ | ⟨x, f, _, hx, _, _⟩
                    · cases f
                    · cases f
                      obtain ⟨h1, _⟩ := errI_ok hx
                      obtain ⟨o1, o2, _⟩ := hasI_le h1
                      exact ⟨h1, o1, o2⟩
                  have hv : v % 256 = v := by omega
                  rw [hv] at M8
                  obtain ⟨x0, x1, x2, _, _⟩ := M8.out
                  rw [hE] at t1
                  have S8' : RdS w2 wc D c s b9.2.2 0 (.slice ua done.length uc) done := by have := S8.out; rw [hE] at this; exact this
                  obtain ⟨sv2, w9, hrun, hrow, honly, hown⟩ := append_mod wc (.slice ua done.length uc) done (v, a.1, b9.1) S8'.row (by omega)
                  have F := hid (⟨hrow, honly, hown⟩ : _ ∧ _ ∧ _)
                  have S9 := hid S8'
                  have KK := hid (show k + (done ++ [(v, a.1, b9.1)]).length = 66 by rw [List.length_append]; have := K.out; simp; omega)
                  dsimp only at hrun
                  clear SB SB' TK hg0 hi hv hrow honly hown S8' hE S8 M8 hgk
                  go_wp2_with (at_builtin; refine Lib.wpList_append_run _ rfl _ _ _ _ rfl _ _ rfl rfl _ _ hrun ?_)
                  go_roundg k
                  case measure => omega
                  case rel =>
                    obtain ⟨hrow, honly, hown⟩ := F.out
                    have ho : ∀ g, g ∈ ownOf (.slice ua done.length uc) → w2.heap.size ≤ g := S9.out.own
                    refine ⟨b9.2.2, done ++ [(v, a.1, b9.1)], ⟨S9.out.sc.only honly (fun h => by have := ho _ h; omega), S9.out.rd.only honly (fun h => by have := ho _ h; omega), hrow, S9.out.only.trans2 honly (fun x hx => .inr (ho x hx)), fun g hg => ?_⟩, KK.out, NX.out⟩
                    rcases hown g hg with e | e
                    · exact ho g e
                    · exact Nat.le_trans S9.out.only.size e
                · rw [if_pos hE] at SB
                  have TK := TK.out
                  rw [readF_end (k := gk) SB, joinT_join, List.append_nil] at TK
                  have ET : T = ([], b9.2.1, 0) := by rw [TK]; simp [joinT, hE]
                  subst ET
                  have HEE := hid hE
                  clear SB TK hgk
                  go_wp2_with fail
                  go_quiet (fail)
                  go_wp2_with fail
                  go_ret2
                  have OO := S8.out.only
                  exact ⟨_, rfl, holdsM_none _, (RB.out.only OO (by simp; exact ⟨hbc', hbD⟩)).drewN _, ((OW.out.trans2 OO (fun x hx => .inr (by have := HC1.out; simp at hx; omega))).mono (fun _ _ h => by cases h)).drewN _, freshM_nil _⟩
end Go.Proofs.YtjjjfmnhdnajkaaGreatDoor

end
