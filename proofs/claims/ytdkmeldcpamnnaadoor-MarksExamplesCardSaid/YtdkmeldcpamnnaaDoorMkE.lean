/- A command of a row changed in place; plain facts on a list with one command that is not valid. -/
import Derived.Test.YtdkmeldcpamnnaaDoorMkF
namespace Go.Proofs.YtdkmeldcpamnnaaDoor
open Go.RowKit
set_option linter.unusedVariables false

theorem RowM.more {w : World} {sv : Value} {l : List (Int × Int × Int)} (h : RowM w sv l) (hl : l ≠ []) : ∃ g cap, sv = .slice (some ⟨g, 0, none⟩) l.length cap ∧ l.length ≤ cap ∧ cap ≤ maxLen ∧ (∀ (j : Nat) x, l[j]? = some x → MAt w g (j * 3) x) ∧ ∀ k, w.frozen? ⟨g, k, none⟩ = false := by
  rcases h.2 with ⟨rfl, h0⟩ | ⟨g, cap, cur, rfl, hb, hh, h1, h2, h3, h4⟩
  · exact absurd (List.length_eq_zero_iff.1 h0) hl
  · refine ⟨g, cap, rfl, h1, h2, fun j x hj => ?_, fun k => by simp [World.frozen?, hh]⟩
    have C := fun k u => World.ownsRow.cells (g := g) h rfl k u
    have add : ∀ k : Nat, (⟨g, 0, none⟩ : Addr).add k = ⟨g, k, none⟩ := fun k => by cases k <;> simp [Addr.add]
    obtain ⟨a, b, c⟩ := cellsM_at l j x hj
    exact ⟨by have := C _ _ a; rwa [add] at this, by have := C _ _ b; rwa [add] at this, by have := C _ _ c; rwa [add] at this⟩
/-- The list after its command j was written anew. -/
theorem holdsM_set {w w' : World} {g cap : Nat} {l : List (Int × Int × Int)} {j : Nat} {y : Int × Int × Int} (hc : l.length ≤ cap) (hm : cap ≤ maxLen) (h : ∀ (i : Nat) x, l[i]? = some x → MAt w g (i * 3) x) (hj : j < l.length)
    (hy : MAt w' g (j * 3) y) (ho : ∀ k, (k < j * 3 ∨ j * 3 + 2 < k) → w'.cell? ⟨g, k, none⟩ = w.cell? ⟨g, k, none⟩) : HoldsM w' (.slice (some ⟨g, 0, none⟩) l.length cap) (l.set j y) := by
  refine ⟨_, cap, by rw [List.length_set], by rw [List.length_set]; exact hc, hm, .inr ⟨g, 0, rfl, fun i x hi => ?_⟩⟩
  rw [Nat.zero_add]
  by_cases e : i = j
  · subst e
    rw [List.getElem?_set_self hj] at hi
    cases hi
    exact hy
  · rw [List.getElem?_set_ne (by omega)] at hi
    have := h i x hi
    exact ⟨by rw [ho _ (by omega)]; exact this.c0, by rw [ho _ (by omega)]; exact this.c1, by rw [ho _ (by omega)]; exact this.c2⟩
theorem firstE_set {m : Bool} {l : List (Int × Int × Int)} {y : Int × Int × Int} {e : Int} (hl : ∀ x, x ∈ l → errI m x = 0) (he : errI m y = e) (h0 : e ≠ 0) : ∀ (j : Nat), j < l.length → firstE m (l.set j y) = e := by
  induction l with
  | nil => intro j hj; simp at hj
  | cons x l ih =>
    intro j hj
    cases j with
    | zero => rw [List.set_cons_zero, firstE, he, if_pos h0]
    | succ j =>
      rw [List.set_cons_succ, firstE, if_neg (fun z => z (hl x (by simp)))]
      exact ih (fun z hz => hl z (by simp [hz])) j (by simpa using hj)
theorem checkI_set {m : Bool} {l : List (Int × Int × Int)} {y : Int × Int × Int} {e : Int} (hl : ∀ x, x ∈ l → errI m x = 0) (he : errI m y = e) (h0 : e ≠ 0) (j : Nat) (hj : j < l.length) (hn : l.length ≤ 66) : checkI m (l.set j y) = e := by
  unfold checkI
  rw [if_neg (by rw [List.length_set]; omega)]
  exact firstE_set hl he h0 j hj
theorem err_op (m : Bool) (op A B : Int) (h : 6 < op) : errI m (op, A, B) = 9 := by
  unfold errI
  rw [if_pos]
  unfold hasI
  cases m
  · simp; omega
  · simp only [if_true]
    rw [if_neg (by omega), if_neg (by omega), if_neg (by omega)]
theorem err_num (m : Bool) (A : Int) (h : A < 0) : errI m (1, A, 0) = 3 := by
  unfold errI
  have e : hasI m 1 = (1, true) := by cases m <;> rfl
  dsimp only
  rw [e]
  rw [if_neg (by simp), if_neg (by simp), if_pos (by omega)]
theorem err_arg (m : Bool) (A B : Int) (h : B ≠ 0) : errI m (2, A, B) = 2 := by
  unfold errI
  have e : hasI m 2 = (1, true) := by cases m <;> rfl
  dsimp only
  rw [e]
  rw [if_neg (by simp), if_pos (.inl ⟨by decide, h⟩)]
theorem oks_set {l : List (Int × Int × Int)} {y : Int × Int × Int} (h : OksM l) (hy : OkM y) (j : Nat) : OksM (l.set j y) := fun i x hi => by
  by_cases e : i = j
  · subst e
    obtain ⟨hlt, _⟩ := List.getElem?_eq_some_iff.1 hi
    rw [List.getElem?_set_self (by simpa using hlt)] at hi
    cases hi
    exact hy
  · rw [List.getElem?_set_ne (by omega)] at hi
    exact h i x hi
theorem i64_and1023 (n : Int) : bits .and .i64 n 1023 = n % 1024 := i64_mask n 10 (by decide)
theorem i64_and7 (n : Int) : bits .and .i64 n 7 = n % 8 := i64_mask n 3 (by decide)
end Go.Proofs.YtdkmeldcpamnnaaDoor
