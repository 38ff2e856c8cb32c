/- The reference's Has, End and Check. -/
import Derived.Test.YtdkmeldcpamnnaaDoorEqM
namespace Go.Proofs.YtdkmeldcpamnnaaDoor
open Go.RowKit
set_option linter.unusedVariables false

set_option maxHeartbeats 1000000 in
theorem rhas_any (m : Bool) (op : Int) (w : World) : Calls Tryd.prog 38 #[.bool m, .int .i64 op] w fun e w' => e = .returned (.tuple #[.int .i64 (hasI m op).1, .bool (hasI m op).2]) ∧ w = w' := by
  cases m with
  | false =>
    by_cases h : 0 ≤ op
    · by_cases k : op ≤ 2
      · rw [show hasI false op = (1, true) from by simp [hasI, h, k]]
        go_enter Tryd.func38, Tryd.ntmps38
        go_wp2_with fail
        go_ret2
        exact ⟨rfl, rfl⟩
      · rw [show hasI false op = (1, false) from by simp [hasI, h, k]]
        go_enter Tryd.func38, Tryd.ntmps38
        go_wp2_with fail
        go_ret2
        exact ⟨rfl, rfl⟩
    · rw [show hasI false op = (1, false) from by simp [hasI, h]]
      go_enter Tryd.func38, Tryd.ntmps38
      go_wp2_with fail
      go_ret2
      exact ⟨rfl, rfl⟩
  | true =>
    by_cases h : op = 1 ∨ op = 2 ∨ op = 3 ∨ op = 4 ∨ op = 5 ∨ op = 6
    · rcases h with rfl | rfl | rfl | rfl | rfl | rfl
      all_goals
        go_enter Tryd.func38, Tryd.ntmps38
        go_wp2_with fail
        go_ret2
        exact ⟨rfl, rfl⟩
    · have h1 : ¬ op = 1 := fun e => h (.inl e)
      have h2 : ¬ op = 2 := fun e => h (.inr (.inl e))
      have h3 : ¬ op = 3 := fun e => h (.inr (.inr (.inl e)))
      have h4 : ¬ op = 4 := fun e => h (.inr (.inr (.inr (.inl e))))
      have h5 : ¬ op = 5 := fun e => h (.inr (.inr (.inr (.inr (.inl e)))))
      have h6 : ¬ op = 6 := fun e => h (.inr (.inr (.inr (.inr (.inr e)))))
      rw [show hasI true op = (0, false) from by simp [hasI, h1, h2, h3, h4, h5, h6]]
      clear h
      go_enter Tryd.func38, Tryd.ntmps38
      go_wp2_with fail
      go_ret2
      exact ⟨rfl, rfl⟩
set_option maxHeartbeats 400000 in
theorem rend9_any (m : Bool) (w : World) : Calls Tryd.prog 40 #[.bool m] w fun e w' => e = .returned (.int .i64 (endN m : Nat)) ∧ w = w' := by
  cases m
  all_goals
    go_enter Tryd.func40, Tryd.ntmps40
    go_wp2_with fail
    go_ret
    exact ⟨rfl, rfl⟩

/-- The commands' fields have their types' bounds. -/
def OkM (x : Int × Int × Int) : Prop := (0 ≤ x.1 ∧ x.1 ≤ 255) ∧ (-9223372036854775808 ≤ x.2.1 ∧ x.2.1 ≤ 9223372036854775807) ∧ (-9223372036854775808 ≤ x.2.2 ∧ x.2.2 ≤ 9223372036854775807)
def OksM (l : List (Int × Int × Int)) : Prop := ∀ (j : Nat) x, l[j]? = some x → OkM x
theorem drop_oneM (l : List (Int × Int × Int)) (j : Nat) (h : j < l.length) : ∃ x, l[j]? = some x ∧ l.drop j = x :: l.drop (j + 1) := ⟨l[j], List.getElem?_eq_getElem h, List.drop_eq_getElem_cons h⟩
theorem hasI_n {m : Bool} {op : Int} : (hasI m op).1 = 0 ∨ (hasI m op).1 = 1 ∨ (hasI m op).1 = 2 := by
  unfold hasI
  cases m
  · simp
  · simp only [if_true]
    split
    · simp
    · split
      · simp
      · split <;> simp

set_option maxRecDepth 100000 in
set_option maxHeartbeats 8000000 in
theorem rcheck_any (m : Bool) (a : Value) (l : List (Int × Int × Int)) (w : World) (ha : HoldsM w a l) (hk : OksM l) :
    Calls Tryd.prog 15 #[.bool m, a] w fun e w' => e = .returned (.int .i64 (checkI m l)) ∧ Only [] w w' := by
  have HA := hid ha
  obtain ⟨a, c, rfl, hc1, hc2, _⟩ := ha
  have hb : (l.length : Int) ≤ 9223372036854775807 := by unfold maxLen at hc2; omega
  clear hc1 hc2
  obtain ⟨r, hr⟩ : ∃ r, r = checkI m l := ⟨_, rfl⟩
  rw [← hr]
  by_cases hl : 66 < l.length
  · rw [show checkI m l = 6 from by unfold checkI; rw [if_pos hl]] at hr
    subst hr
    have hl' : (66 : Int) < (l.length : Int) := by omega
    clear hl
    go_enter Tryd.func15, Tryd.ntmps15
    go_wp2_with fail
    go_ret
    exact ⟨rfl, Only.refl _ _⟩
  rw [show checkI m l = firstE m l from by unfold checkI; rw [if_neg hl]] at hr
  have R := hid hr
  have hl' : ¬ (66 : Int) < (l.length : Int) := by omega
  have HK := hid hk
  obtain ⟨n, hn⟩ : ∃ n, n = l.length := ⟨_, rfl⟩
  have N := hid hn
  have nb : (n : Int) ≤ 66 := by omega
  rw [← hn] at hl' ⊢
  clear hr hl hk hn hb
  go_enter Tryd.func15, Tryd.ntmps15
  go_wp2_with fail
  go_loopg [5] n (fun g t wr => ∃ j : Nat, j + g = n ∧ t = .int .i64 j ∧ firstE m (l.drop j) = r ∧ Only [] w wr)
  case atStart => exact ⟨0, by omega, rfl, by rw [List.drop_zero]; exact R.out.symm, Only.refl _ _⟩
  case round =>
    obtain ⟨j, hj, rfl, ht, hO⟩ := hrel
    have J := hid hj
    have T := hid ht
    have O := hid hO
    clear ht hO
    have jb : (j : Int) ≤ 66 := by omega
    have j0 : (0 : Int) ≤ (j : Int) := by omega
    by_cases hg : gk = 0
    · obtain rfl : j = n := by omega
      have i1 : ¬ (j : Int) < (j : Int) := by omega
      have e := T.out
      rw [List.drop_of_length_le (by have := N.out; omega)] at e
      have E : r = 0 := e.symm
      subst E
      clear hj hg e
      go_wp2_with fail
      go_ret
      exact ⟨rfl, O.out⟩
    · have i1 : (j : Int) < (n : Int) := by omega
      obtain ⟨g, rfl⟩ : ∃ g, gk = g + 1 := ⟨gk - 1, by omega⟩
      obtain ⟨x, X, D⟩ := drop_oneM l j (by have := N.out; omega)
      obtain ⟨⟨o0, o1⟩, ⟨p0, p1⟩, ⟨q0, q1⟩⟩ := HK.out j x X
      obtain ⟨xb, xo, rfl, hx⟩ := HA.out.at X
      obtain ⟨x0, x1, x2⟩ := hx.only O.out (by simp)
      have F := T.out
      rw [D, firstE] at F
      have HS := hid (fun w => rhas_any m x.1 w)
      have HN := hasI_n (m := m) (op := x.1)
      have JG := hid (show j + 1 + g = n by omega)
      have E1 : errI m x = if (hasI m x.1).2 = false then 9 else if ((hasI m x.1).1 < 2 ∧ x.2.2 ≠ 0) ∨ ((hasI m x.1).1 < 1 ∧ x.2.1 ≠ 0) then 2 else if x.2.1 < 0 ∨ 4294967294 < x.2.1 ∨ x.2.2 < 0 ∨ 4294967294 < x.2.2 then 3 else 0 := rfl
      generalize errI m x = er at *
      generalize hasI m x.1 = h at *
      obtain ⟨nn, is⟩ := h
      obtain ⟨op, A, B⟩ := x
      dsimp only at *
      clear hj hg hx X D T
      go_wp2_with fail
      refine (HS.out _).mono ?_
      rintro e w2 ⟨rfl, rfl⟩
      clear HS
      cases is with
      | false =>
        simp only [if_true] at E1
        subst E1
        simp only [ne_eq, (by decide : ¬ (9 : Int) = 0), not_false_eq_true, if_true] at F
        subst F
        go_wp2_with fail
        go_ret
        exact ⟨rfl, O.out⟩
      | true =>
        simp only [Bool.true_eq_false, if_false] at E1
        rcases HN with rfl | rfl | rfl
        · by_cases hB : B = 0
          · subst hB
            by_cases hA : A = 0
            · subst hA
              obtain rfl : er = 0 := by rw [E1]; simp <;> omega
              have F2 := hid (show firstE m (l.drop (j + 1)) = r by rw [← F]; simp)
              clear E1 F
              go_wp2_with fail
              go_roundg g
              case measure => omega
              case rel => exact ⟨j + 1, JG.out, by go_num, F2.out, O.out⟩
            · obtain rfl : er = 2 := by rw [E1]; simp <;> omega
              obtain rfl : r = 2 := by rw [← F]; simp
              clear E1 F
              go_wp2_with fail
              go_ret
              exact ⟨rfl, O.out⟩
          · obtain rfl : er = 2 := by rw [E1]; simp <;> omega
            obtain rfl : r = 2 := by rw [← F]; simp
            clear E1 F
            go_wp2_with fail
            go_ret
            exact ⟨rfl, O.out⟩
        · by_cases hB : B = 0
          · subst hB
            by_cases hA : A < 0
            · obtain rfl : er = 3 := by rw [E1]; simp <;> omega
              obtain rfl : r = 3 := by rw [← F]; simp
              clear E1 F
              go_wp2_with fail
              go_ret
              exact ⟨rfl, O.out⟩
            · by_cases hA2 : (4294967294 : Int) < A
              · obtain rfl : er = 3 := by rw [E1]; simp <;> omega
                obtain rfl : r = 3 := by rw [← F]; simp
                clear E1 F
                go_wp2_with fail
                go_ret
                exact ⟨rfl, O.out⟩
              · obtain rfl : er = 0 := by rw [E1]; simp <;> omega
                have F2 := hid (show firstE m (l.drop (j + 1)) = r by rw [← F]; simp)
                clear E1 F
                go_wp2_with fail
                go_roundg g
                case measure => omega
                case rel => exact ⟨j + 1, JG.out, by go_num, F2.out, O.out⟩
          · obtain rfl : er = 2 := by rw [E1]; simp <;> omega
            obtain rfl : r = 2 := by rw [← F]; simp
            clear E1 F
            go_wp2_with fail
            go_ret
            exact ⟨rfl, O.out⟩
        · by_cases hA : A < 0
          · obtain rfl : er = 3 := by rw [E1]; simp <;> omega
            obtain rfl : r = 3 := by rw [← F]; simp
            clear E1 F
            go_wp2_with fail
            go_ret
            exact ⟨rfl, O.out⟩
          · by_cases hA2 : (4294967294 : Int) < A
            · obtain rfl : er = 3 := by rw [E1]; simp <;> omega
              obtain rfl : r = 3 := by rw [← F]; simp
              clear E1 F
              go_wp2_with fail
              go_ret
              exact ⟨rfl, O.out⟩
            · by_cases hB : B < 0
              · obtain rfl : er = 3 := by rw [E1]; simp <;> omega
                obtain rfl : r = 3 := by rw [← F]; simp
                clear E1 F
                go_wp2_with fail
                go_ret
                exact ⟨rfl, O.out⟩
              · by_cases hB2 : (4294967294 : Int) < B
                · obtain rfl : er = 3 := by rw [E1]; simp <;> omega
                  obtain rfl : r = 3 := by rw [← F]; simp
                  clear E1 F
                  go_wp2_with fail
                  go_ret
                  exact ⟨rfl, O.out⟩
                · obtain rfl : er = 0 := by rw [E1]; simp <;> omega
                  have F2 := hid (show firstE m (l.drop (j + 1)) = r by rw [← F]; simp)
                  clear E1 F
                  go_wp2_with fail
                  go_roundg g
                  case measure => omega
                  case rel => exact ⟨j + 1, JG.out, by go_num, F2.out, O.out⟩
end Go.Proofs.YtdkmeldcpamnnaaDoor
