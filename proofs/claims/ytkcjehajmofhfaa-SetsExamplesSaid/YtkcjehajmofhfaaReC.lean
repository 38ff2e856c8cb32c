/- The reference's checks of parameter sets. -/
import Derived.Test.YtkcjehajmofhfaaSeC
namespace Go.Proofs.Ytkcjehajmofhfaa
open Go.RowKit
set_option linter.unusedVariables false

theorem ht_ok {wd ht : Int} (h : inB wd 1 128 = true) : inB ht 1 (mostH wd) = (inB ht 1 128 && decide (wd * ht ≤ 8160)) := by
  obtain ⟨h1, h2⟩ := inB_true h
  have e : ht ≤ 8160 / wd ↔ wd * ht ≤ 8160 := by rw [Int.le_ediv_iff_mul_le (by omega), Int.mul_comm]
  have e2 : (1 ≤ ht ∧ ht ≤ mostH wd) ↔ ((1 ≤ ht ∧ ht ≤ 128) ∧ wd * ht ≤ 8160) := by
    unfold mostH
    rw [Int.le_min, e]
    exact ⟨fun ⟨a, b, c⟩ => ⟨⟨a, b⟩, c⟩, fun ⟨⟨a, b⟩, c⟩ => ⟨a, b, c⟩⟩
  rw [Bool.eq_iff_iff, Bool.and_eq_true]
  unfold inB
  rw [decide_eq_true_eq, decide_eq_true_eq, decide_eq_true_eq]
  exact e2
theorem prod_bound {wd ht : Int} (h : inB wd 1 128 = true) (k : inB ht 1 128 = true) : 0 ≤ wd * ht ∧ wd * ht ≤ 16384 := by
  obtain ⟨h1, h2⟩ := inB_true h
  obtain ⟨k1, k2⟩ := inB_true k
  refine ⟨Int.mul_nonneg (by omega) (by omega), ?_⟩
  calc wd * ht ≤ 128 * 128 := Int.mul_le_mul h2 k2 (by omega) (by omega)
    _ = 16384 := by decide
set_option maxHeartbeats 400000 in
theorem rwithin6_any (v lo hi : Int) (w : World) : Calls Try.prog 36 #[.int .i64 v, .int .i64 lo, .int .i64 hi] w fun e w' => e = .returned (.bool (inB v lo hi)) ∧ w' = w := by
  by_cases h1 : lo ≤ v <;> by_cases h2 : v ≤ hi
  all_goals
    rw [show inB v lo hi = _ from by unfold inB; simp only [h1, h2]; rfl]
    go_enter Try.func36, Try.ntmps36
    go_wp2_with fail
    go_ret
    exact ⟨by simp, rfl⟩
theorem rwithin6_b {v lo hi : Int} {r : Bool} (h : inB v lo hi = r) (w : World) : Calls Try.prog 36 #[.int .i64 v, .int .i64 lo, .int .i64 hi] w fun e w' => e = .returned (.bool r) ∧ w' = w := h ▸ rwithin6_any v lo hi w
set_option maxHeartbeats 400000 in
theorem rwithin7_any (v lo hi : Int) (w : World) : Calls Try.prog 38 #[.int .i64 v, .int .i64 lo, .int .i64 hi] w fun e w' => e = .returned (.bool (inB v lo hi)) ∧ w' = w := by
  by_cases h1 : lo ≤ v <;> by_cases h2 : v ≤ hi
  all_goals
    rw [show inB v lo hi = _ from by unfold inB; simp only [h1, h2]; rfl]
    go_enter Try.func38, Try.ntmps38
    go_wp2_with fail
    go_ret
    exact ⟨by simp, rfl⟩
theorem rwithin7_b {v lo hi : Int} {r : Bool} (h : inB v lo hi = r) (w : World) : Calls Try.prog 38 #[.int .i64 v, .int .i64 lo, .int .i64 hi] w fun e w' => e = .returned (.bool r) ∧ w' = w := h ▸ rwithin7_any v lo hi w
set_option maxRecDepth 100000 in
set_option maxHeartbeats 8000000 in
theorem rcheck6_any (x : SV) (w : World) : Calls Try.prog 27 #[sV x] w fun e w' => e = .returned (.int .i64 (chS x)) ∧ Only [] w w' := by
  obtain ⟨r, hr⟩ : ∃ r, r = chS x := ⟨_, rfl⟩
  rw [← hr]
  have R := hid hr
  clear hr
  cases h1 : inB x.id 0 31 with
  | false =>
    obtain rfl : r = 3 := by rw [R.out, chS, show okS x = false by unfold okS; simp only [h1]; simp]; rfl
    have H1 := hid h1
    clear R h1
    go_enter Try.func27, Try.ntmps27
    go_wp2_with ((go_at_call 36; first | (with_reducible refine (rwithin6_b H1.out _).mono ?_)); (rintro e w' ⟨rfl, rfl⟩))
    go_ret
    exact ⟨rfl, (Only.refl _ _).alloc _⟩
  | true =>
    cases h2 : inB x.fb 4 16 with
    | false =>
      obtain rfl : r = 3 := by rw [R.out, chS, show okS x = false by unfold okS; simp only [h1, h2]; simp]; rfl
      have H1 := hid h1
      have H2 := hid h2
      clear R h1 h2
      go_enter Try.func27, Try.ntmps27
      go_wp2_with ((go_at_call 36; first | (with_reducible refine (rwithin6_b H1.out _).mono ?_) | (with_reducible refine (rwithin6_b H2.out _).mono ?_)); (rintro e w' ⟨rfl, rfl⟩))
      go_ret
      exact ⟨rfl, (Only.refl _ _).alloc _⟩
    | true =>
      cases h3 : inB x.pb 4 16 with
      | false =>
        obtain rfl : r = 3 := by rw [R.out, chS, show okS x = false by unfold okS; simp only [h1, h2, h3]; simp]; rfl
        have H1 := hid h1
        have H2 := hid h2
        have H3 := hid h3
        clear R h1 h2 h3
        go_enter Try.func27, Try.ntmps27
        go_wp2_with ((go_at_call 36; first | (with_reducible refine (rwithin6_b H1.out _).mono ?_) | (with_reducible refine (rwithin6_b H2.out _).mono ?_) | (with_reducible refine (rwithin6_b H3.out _).mono ?_)); (rintro e w' ⟨rfl, rfl⟩))
        go_ret
        exact ⟨rfl, (Only.refl _ _).alloc _⟩
      | true =>
        cases h4 : inB x.rf 0 16 with
        | false =>
          obtain rfl : r = 3 := by rw [R.out, chS, show okS x = false by unfold okS; simp only [h1, h2, h3, h4]; simp]; rfl
          have H1 := hid h1
          have H2 := hid h2
          have H3 := hid h3
          have H4 := hid h4
          clear R h1 h2 h3 h4
          go_enter Try.func27, Try.ntmps27
          go_wp2_with ((go_at_call 36; first | (with_reducible refine (rwithin6_b H1.out _).mono ?_) | (with_reducible refine (rwithin6_b H2.out _).mono ?_) | (with_reducible refine (rwithin6_b H3.out _).mono ?_) | (with_reducible refine (rwithin6_b H4.out _).mono ?_)); (rintro e w' ⟨rfl, rfl⟩))
          go_ret
          exact ⟨rfl, (Only.refl _ _).alloc _⟩
        | true =>
          cases h5 : inB x.wd 1 128 with
          | false =>
            obtain rfl : r = 3 := by rw [R.out, chS, show okS x = false by unfold okS; simp only [h1, h2, h3, h4, h5]; simp]; rfl
            have H1 := hid h1
            have H2 := hid h2
            have H3 := hid h3
            have H4 := hid h4
            have H5 := hid h5
            clear R h1 h2 h3 h4 h5
            go_enter Try.func27, Try.ntmps27
            go_wp2_with ((go_at_call 36; first | (with_reducible refine (rwithin6_b H1.out _).mono ?_) | (with_reducible refine (rwithin6_b H2.out _).mono ?_) | (with_reducible refine (rwithin6_b H3.out _).mono ?_) | (with_reducible refine (rwithin6_b H4.out _).mono ?_) | (with_reducible refine (rwithin6_b H5.out _).mono ?_)); (rintro e w' ⟨rfl, rfl⟩))
            go_ret
            exact ⟨rfl, (Only.refl _ _).alloc _⟩
          | true =>
            cases h6 : inB x.ht 1 128 with
            | false =>
              obtain rfl : r = 3 := by rw [R.out, chS, show okS x = false by unfold okS; rw [ht_ok h5, h6]; simp]; rfl
              have H1 := hid h1
              have H2 := hid h2
              have H3 := hid h3
              have H4 := hid h4
              have H5 := hid h5
              have H6 := hid h6
              clear R h1 h2 h3 h4 h5 h6
              go_enter Try.func27, Try.ntmps27
              go_wp2_with ((go_at_call 36; first | (with_reducible refine (rwithin6_b H1.out _).mono ?_) | (with_reducible refine (rwithin6_b H2.out _).mono ?_) | (with_reducible refine (rwithin6_b H3.out _).mono ?_) | (with_reducible refine (rwithin6_b H4.out _).mono ?_) | (with_reducible refine (rwithin6_b H5.out _).mono ?_) | (with_reducible refine (rwithin6_b H6.out _).mono ?_)); (rintro e w' ⟨rfl, rfl⟩))
              go_ret
              exact ⟨rfl, (Only.refl _ _).alloc _⟩
            | true =>
              obtain ⟨p0, p1⟩ := prod_bound h5 h6
              by_cases hp : x.wd * x.ht ≤ 8160
              · obtain rfl : r = 0 := by rw [R.out, chS, show okS x = true by unfold okS; rw [ht_ok h5, h1, h2, h3, h4, h5, h6, decide_eq_true hp]; rfl]; rfl
                have hp' : ¬ 8160 < x.wd * x.ht := by omega
                have H1 := hid h1
                have H2 := hid h2
                have H3 := hid h3
                have H4 := hid h4
                have H5 := hid h5
                have H6 := hid h6
                clear R h1 h2 h3 h4 h5 h6 hp
                go_enter Try.func27, Try.ntmps27
                go_wp2_with ((go_at_call 36; first | (with_reducible refine (rwithin6_b H1.out _).mono ?_) | (with_reducible refine (rwithin6_b H2.out _).mono ?_) | (with_reducible refine (rwithin6_b H3.out _).mono ?_) | (with_reducible refine (rwithin6_b H4.out _).mono ?_) | (with_reducible refine (rwithin6_b H5.out _).mono ?_) | (with_reducible refine (rwithin6_b H6.out _).mono ?_)); (rintro e w' ⟨rfl, rfl⟩))
                go_ret
                exact ⟨rfl, (Only.refl _ _).alloc _⟩
              · obtain rfl : r = 3 := by rw [R.out, chS, show okS x = false by unfold okS; rw [ht_ok h5, decide_eq_false hp]; simp]; rfl
                have hp' : 8160 < x.wd * x.ht := by omega
                have H1 := hid h1
                have H2 := hid h2
                have H3 := hid h3
                have H4 := hid h4
                have H5 := hid h5
                have H6 := hid h6
                clear R h1 h2 h3 h4 h5 h6 hp
                go_enter Try.func27, Try.ntmps27
                go_wp2_with ((go_at_call 36; first | (with_reducible refine (rwithin6_b H1.out _).mono ?_) | (with_reducible refine (rwithin6_b H2.out _).mono ?_) | (with_reducible refine (rwithin6_b H3.out _).mono ?_) | (with_reducible refine (rwithin6_b H4.out _).mono ?_) | (with_reducible refine (rwithin6_b H5.out _).mono ?_) | (with_reducible refine (rwithin6_b H6.out _).mono ?_)); (rintro e w' ⟨rfl, rfl⟩))
                go_ret
                exact ⟨rfl, (Only.refl _ _).alloc _⟩
set_option maxRecDepth 100000 in
set_option maxHeartbeats 8000000 in
theorem rcheck7_any (x : PV) (w : World) : Calls Try.prog 30 #[pV x] w fun e w' => e = .returned (.int .i64 (chP x)) ∧ Only [] w w' := by
  obtain ⟨r, hr⟩ : ∃ r, r = chP x := ⟨_, rfl⟩
  rw [← hr]
  have R := hid hr
  clear hr
  cases h1 : inB x.id 0 31 with
  | false =>
    obtain rfl : r = 3 := by rw [R.out, chP, show okP x = false by unfold okP; simp only [h1]; simp]; rfl
    have H1 := hid h1
    clear R h1
    go_enter Try.func30, Try.ntmps30
    go_wp2_with ((go_at_call 38; first | (with_reducible refine (rwithin7_b H1.out _).mono ?_)); (rintro e w' ⟨rfl, rfl⟩))
    go_ret
    exact ⟨rfl, (Only.refl _ _).alloc _⟩
  | true =>
    cases h2 : inB x.sps 0 31 with
    | false =>
      obtain rfl : r = 3 := by rw [R.out, chP, show okP x = false by unfold okP; simp only [h1, h2]; simp]; rfl
      have H1 := hid h1
      have H2 := hid h2
      clear R h1 h2
      go_enter Try.func30, Try.ntmps30
      go_wp2_with ((go_at_call 38; first | (with_reducible refine (rwithin7_b H1.out _).mono ?_) | (with_reducible refine (rwithin7_b H2.out _).mono ?_)); (rintro e w' ⟨rfl, rfl⟩))
      go_ret
      exact ⟨rfl, (Only.refl _ _).alloc _⟩
    | true =>
      cases h3 : inB x.rf 1 32 with
      | false =>
        obtain rfl : r = 3 := by rw [R.out, chP, show okP x = false by unfold okP; simp only [h1, h2, h3]; simp]; rfl
        have H1 := hid h1
        have H2 := hid h2
        have H3 := hid h3
        clear R h1 h2 h3
        go_enter Try.func30, Try.ntmps30
        go_wp2_with ((go_at_call 38; first | (with_reducible refine (rwithin7_b H1.out _).mono ?_) | (with_reducible refine (rwithin7_b H2.out _).mono ?_) | (with_reducible refine (rwithin7_b H3.out _).mono ?_)); (rintro e w' ⟨rfl, rfl⟩))
        go_ret
        exact ⟨rfl, (Only.refl _ _).alloc _⟩
      | true =>
        cases h4 : inB x.r1 1 32 with
        | false =>
          obtain rfl : r = 3 := by rw [R.out, chP, show okP x = false by unfold okP; simp only [h1, h2, h3, h4]; simp]; rfl
          have H1 := hid h1
          have H2 := hid h2
          have H3 := hid h3
          have H4 := hid h4
          clear R h1 h2 h3 h4
          go_enter Try.func30, Try.ntmps30
          go_wp2_with ((go_at_call 38; first | (with_reducible refine (rwithin7_b H1.out _).mono ?_) | (with_reducible refine (rwithin7_b H2.out _).mono ?_) | (with_reducible refine (rwithin7_b H3.out _).mono ?_) | (with_reducible refine (rwithin7_b H4.out _).mono ?_)); (rintro e w' ⟨rfl, rfl⟩))
          go_ret
          exact ⟨rfl, (Only.refl _ _).alloc _⟩
        | true =>
          cases h5 : inB x.qp (-26) 25 with
          | false =>
            obtain rfl : r = 3 := by rw [R.out, chP, show okP x = false by unfold okP; simp only [h1, h2, h3, h4, h5]; simp]; rfl
            have H1 := hid h1
            have H2 := hid h2
            have H3 := hid h3
            have H4 := hid h4
            have H5 := hid h5
            clear R h1 h2 h3 h4 h5
            go_enter Try.func30, Try.ntmps30
            go_wp2_with ((go_at_call 38; first | (with_reducible refine (rwithin7_b H1.out _).mono ?_) | (with_reducible refine (rwithin7_b H2.out _).mono ?_) | (with_reducible refine (rwithin7_b H3.out _).mono ?_) | (with_reducible refine (rwithin7_b H4.out _).mono ?_) | (with_reducible refine (rwithin7_b H5.out _).mono ?_)); (rintro e w' ⟨rfl, rfl⟩))
            go_ret
            exact ⟨rfl, (Only.refl _ _).alloc _⟩
          | true =>
            cases h6 : inB x.qs (-26) 25 with
            | false =>
              obtain rfl : r = 3 := by rw [R.out, chP, show okP x = false by unfold okP; simp only [h1, h2, h3, h4, h5, h6]; simp]; rfl
              have H1 := hid h1
              have H2 := hid h2
              have H3 := hid h3
              have H4 := hid h4
              have H5 := hid h5
              have H6 := hid h6
              clear R h1 h2 h3 h4 h5 h6
              go_enter Try.func30, Try.ntmps30
              go_wp2_with ((go_at_call 38; first | (with_reducible refine (rwithin7_b H1.out _).mono ?_) | (with_reducible refine (rwithin7_b H2.out _).mono ?_) | (with_reducible refine (rwithin7_b H3.out _).mono ?_) | (with_reducible refine (rwithin7_b H4.out _).mono ?_) | (with_reducible refine (rwithin7_b H5.out _).mono ?_) | (with_reducible refine (rwithin7_b H6.out _).mono ?_)); (rintro e w' ⟨rfl, rfl⟩))
              go_ret
              exact ⟨rfl, (Only.refl _ _).alloc _⟩
            | true =>
              cases h7 : inB x.ch (-12) 12 with
              | false =>
                obtain rfl : r = 3 := by rw [R.out, chP, show okP x = false by unfold okP; simp only [h1, h2, h3, h4, h5, h6, h7]; simp]; rfl
                have H1 := hid h1
                have H2 := hid h2
                have H3 := hid h3
                have H4 := hid h4
                have H5 := hid h5
                have H6 := hid h6
                have H7 := hid h7
                clear R h1 h2 h3 h4 h5 h6 h7
                go_enter Try.func30, Try.ntmps30
                go_wp2_with ((go_at_call 38; first | (with_reducible refine (rwithin7_b H1.out _).mono ?_) | (with_reducible refine (rwithin7_b H2.out _).mono ?_) | (with_reducible refine (rwithin7_b H3.out _).mono ?_) | (with_reducible refine (rwithin7_b H4.out _).mono ?_) | (with_reducible refine (rwithin7_b H5.out _).mono ?_) | (with_reducible refine (rwithin7_b H6.out _).mono ?_) | (with_reducible refine (rwithin7_b H7.out _).mono ?_)); (rintro e w' ⟨rfl, rfl⟩))
                go_ret
                exact ⟨rfl, (Only.refl _ _).alloc _⟩
              | true =>
                obtain rfl : r = 0 := by rw [R.out, chP, show okP x = true by unfold okP; rw [h1, h2, h3, h4, h5, h6, h7]; rfl]; rfl
                have H1 := hid h1
                have H2 := hid h2
                have H3 := hid h3
                have H4 := hid h4
                have H5 := hid h5
                have H6 := hid h6
                have H7 := hid h7
                clear R h1 h2 h3 h4 h5 h6 h7
                go_enter Try.func30, Try.ntmps30
                go_wp2_with ((go_at_call 38; first | (with_reducible refine (rwithin7_b H1.out _).mono ?_) | (with_reducible refine (rwithin7_b H2.out _).mono ?_) | (with_reducible refine (rwithin7_b H3.out _).mono ?_) | (with_reducible refine (rwithin7_b H4.out _).mono ?_) | (with_reducible refine (rwithin7_b H5.out _).mono ?_) | (with_reducible refine (rwithin7_b H6.out _).mono ?_) | (with_reducible refine (rwithin7_b H7.out _).mono ?_)); (rintro e w' ⟨rfl, rfl⟩))
                go_ret
                exact ⟨rfl, (Only.refl _ _).alloc _⟩
end Go.Proofs.Ytkcjehajmofhfaa
