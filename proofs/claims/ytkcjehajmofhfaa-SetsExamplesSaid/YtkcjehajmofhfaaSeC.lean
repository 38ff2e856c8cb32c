/- The checks of parameter sets, of the program. -/
import Derived.Test.YtkcjehajmofhfaaRows
import Derived.Test.YtkcjehajmofhfaaSeM
import Derived.RegionTactic
import Derived.ChangeAlike
import Derived.Deep.QuietTactic
import Derived.BigQuiet
namespace Go.Proofs.Ytkcjehajmofhfaa
open Go.RowKit
set_option linter.unusedVariables false

set_option maxHeartbeats 400000 in
theorem within6_any (v lo hi : Int) (w : World) : Calls Try.prog 34 #[.int .i64 v, .int .i64 lo, .int .i64 hi] w fun e w' => e = .returned (.bool (inB v lo hi)) ∧ w' = w := by
  by_cases h1 : lo ≤ v <;> by_cases h2 : v ≤ hi
  all_goals
    rw [show inB v lo hi = _ from by unfold inB; simp only [h1, h2]; rfl]
    go_enter Try.func34, Try.ntmps34
    go_wp2_with fail
    go_ret
    exact ⟨by simp, rfl⟩
set_option maxHeartbeats 400000 in
theorem within7_any (v lo hi : Int) (w : World) : Calls Try.prog 37 #[.int .i64 v, .int .i64 lo, .int .i64 hi] w fun e w' => e = .returned (.bool (inB v lo hi)) ∧ w' = w := by
  by_cases h1 : lo ≤ v <;> by_cases h2 : v ≤ hi
  all_goals
    rw [show inB v lo hi = _ from by unfold inB; simp only [h1, h2]; rfl]
    go_enter Try.func37, Try.ntmps37
    go_wp2_with fail
    go_ret
    exact ⟨by simp, rfl⟩
theorem within6_b {v lo hi : Int} {r : Bool} (h : inB v lo hi = r) (w : World) : Calls Try.prog 34 #[.int .i64 v, .int .i64 lo, .int .i64 hi] w fun e w' => e = .returned (.bool r) ∧ w' = w := h ▸ within6_any v lo hi w
theorem within7_b {v lo hi : Int} {r : Bool} (h : inB v lo hi = r) (w : World) : Calls Try.prog 37 #[.int .i64 v, .int .i64 lo, .int .i64 hi] w fun e w' => e = .returned (.bool r) ∧ w' = w := h ▸ within7_any v lo hi w
set_option maxHeartbeats 400000 in
theorem most_any (v : Int) (w : World) (h1 : 1 ≤ v) (h2 : v ≤ 128) : Calls Try.prog 35 #[.int .i64 v] w fun e w' => e = .returned (.int .i64 (mostH v)) ∧ w' = w := by
  have h0 : 0 ≤ v := by omega
  have hn : ¬ v = 0 := by omega
  go_enter Try.func35, Try.ntmps35
  go_wp2_with fail
  all_goals
    go_ret
    exact ⟨ret_int (by unfold mostH; omega), rfl⟩

set_option maxRecDepth 100000 in
set_option maxHeartbeats 8000000 in
theorem check6_any (x : SV) (w : World) : Calls Try.prog 25 #[sV x] w fun e w' => e = .returned (.int .i64 (chS x)) ∧ Only [] w w' := by
  obtain ⟨r, hr⟩ : ∃ r, r = chS x := ⟨_, rfl⟩
  rw [← hr]
  have R := hid hr
  clear hr
  rcases okS_cases x with ⟨h1, h2, h3, h4, h5, h6, h0⟩ | ⟨h1, h2, h3, h4, h5, h6, h0⟩ | ⟨h1, h2, h3, h4, h5, h0⟩ | ⟨h1, h2, h3, h4, h0⟩ | ⟨h1, h2, h3, h0⟩ | ⟨h1, h2, h0⟩ | ⟨h1, h0⟩
  · obtain rfl : r = 0 := by rw [R.out, chS, h0]; rfl
    have b1 := (inB_true h5).1
    have b2 := (inB_true h5).2
    have H1 := hid h1
    have H2 := hid h2
    have H3 := hid h3
    have H4 := hid h4
    have H5 := hid h5
    have H6 := hid h6
    clear h0 R h1 h2 h3 h4 h5 h6
    go_enter Try.func25, Try.ntmps25
    go_wp2_with fail
    go_quiet (first | (go_at_call 34; first | with_reducible exact Calls.quiet_of_same (within6_b H1.out _) | with_reducible exact Calls.quiet_of_same (within6_b H2.out _) | with_reducible exact Calls.quiet_of_same (within6_b H3.out _) | with_reducible exact Calls.quiet_of_same (within6_b H4.out _) | with_reducible exact Calls.quiet_of_same (within6_b H5.out _) | with_reducible exact Calls.quiet_of_same (within6_b H6.out _)) | (go_at_call 35; with_reducible exact Calls.quiet_of_same (most_any _ _ b1 b2)))
    go_wp2_with fail
    go_ret
    exact ⟨rfl, ((Only.refl _ _).alloc _).drewN _⟩
  · obtain rfl : r = 3 := by rw [R.out, chS, h0]; rfl
    have b1 := (inB_true h5).1
    have b2 := (inB_true h5).2
    have H1 := hid h1
    have H2 := hid h2
    have H3 := hid h3
    have H4 := hid h4
    have H5 := hid h5
    have H6 := hid h6
    clear h0 R h1 h2 h3 h4 h5 h6
    go_enter Try.func25, Try.ntmps25
    go_wp2_with fail
    go_quiet (first | (go_at_call 34; first | with_reducible exact Calls.quiet_of_same (within6_b H1.out _) | with_reducible exact Calls.quiet_of_same (within6_b H2.out _) | with_reducible exact Calls.quiet_of_same (within6_b H3.out _) | with_reducible exact Calls.quiet_of_same (within6_b H4.out _) | with_reducible exact Calls.quiet_of_same (within6_b H5.out _) | with_reducible exact Calls.quiet_of_same (within6_b H6.out _)) | (go_at_call 35; with_reducible exact Calls.quiet_of_same (most_any _ _ b1 b2)))
    go_wp2_with fail
    go_ret
    exact ⟨rfl, ((Only.refl _ _).alloc _).drewN _⟩
  · obtain rfl : r = 3 := by rw [R.out, chS, h0]; rfl
    have H1 := hid h1
    have H2 := hid h2
    have H3 := hid h3
    have H4 := hid h4
    have H5 := hid h5
    clear h0 R h1 h2 h3 h4 h5
    go_enter Try.func25, Try.ntmps25
    go_wp2_with fail
    go_quiet (first | (go_at_call 34; first | with_reducible exact Calls.quiet_of_same (within6_b H1.out _) | with_reducible exact Calls.quiet_of_same (within6_b H2.out _) | with_reducible exact Calls.quiet_of_same (within6_b H3.out _) | with_reducible exact Calls.quiet_of_same (within6_b H4.out _) | with_reducible exact Calls.quiet_of_same (within6_b H5.out _)))
    go_wp2_with fail
    go_ret
    exact ⟨rfl, ((Only.refl _ _).alloc _).drewN _⟩
  · obtain rfl : r = 3 := by rw [R.out, chS, h0]; rfl
    have H1 := hid h1
    have H2 := hid h2
    have H3 := hid h3
    have H4 := hid h4
    clear h0 R h1 h2 h3 h4
    go_enter Try.func25, Try.ntmps25
    go_wp2_with fail
    go_quiet (first | (go_at_call 34; first | with_reducible exact Calls.quiet_of_same (within6_b H1.out _) | with_reducible exact Calls.quiet_of_same (within6_b H2.out _) | with_reducible exact Calls.quiet_of_same (within6_b H3.out _) | with_reducible exact Calls.quiet_of_same (within6_b H4.out _)))
    go_wp2_with fail
    go_ret
    exact ⟨rfl, ((Only.refl _ _).alloc _).drewN _⟩
  · obtain rfl : r = 3 := by rw [R.out, chS, h0]; rfl
    have H1 := hid h1
    have H2 := hid h2
    have H3 := hid h3
    clear h0 R h1 h2 h3
    go_enter Try.func25, Try.ntmps25
    go_wp2_with fail
    go_quiet (first | (go_at_call 34; first | with_reducible exact Calls.quiet_of_same (within6_b H1.out _) | with_reducible exact Calls.quiet_of_same (within6_b H2.out _) | with_reducible exact Calls.quiet_of_same (within6_b H3.out _)))
    go_wp2_with fail
    go_ret
    exact ⟨rfl, ((Only.refl _ _).alloc _).drewN _⟩
  · obtain rfl : r = 3 := by rw [R.out, chS, h0]; rfl
    have H1 := hid h1
    have H2 := hid h2
    clear h0 R h1 h2
    go_enter Try.func25, Try.ntmps25
    go_wp2_with fail
    go_quiet (first | (go_at_call 34; first | with_reducible exact Calls.quiet_of_same (within6_b H1.out _) | with_reducible exact Calls.quiet_of_same (within6_b H2.out _)))
    go_wp2_with fail
    go_ret
    exact ⟨rfl, ((Only.refl _ _).alloc _).drewN _⟩
  · obtain rfl : r = 3 := by rw [R.out, chS, h0]; rfl
    have H1 := hid h1
    clear h0 R h1
    go_enter Try.func25, Try.ntmps25
    go_wp2_with fail
    go_quiet (first | (go_at_call 34; first | with_reducible exact Calls.quiet_of_same (within6_b H1.out _)))
    go_wp2_with fail
    go_ret
    exact ⟨rfl, ((Only.refl _ _).alloc _).drewN _⟩
set_option maxRecDepth 100000 in
set_option maxHeartbeats 8000000 in
theorem check7_any (x : PV) (w : World) : Calls Try.prog 28 #[pV x] w fun e w' => e = .returned (.int .i64 (chP x)) ∧ Only [] w w' := by
  obtain ⟨r, hr⟩ : ∃ r, r = chP x := ⟨_, rfl⟩
  rw [← hr]
  have R := hid hr
  clear hr
  rcases okP_cases x with ⟨h1, h2, h3, h4, h5, h6, h7, h0⟩ | ⟨h1, h2, h3, h4, h5, h6, h7, h0⟩ | ⟨h1, h2, h3, h4, h5, h6, h0⟩ | ⟨h1, h2, h3, h4, h5, h0⟩ | ⟨h1, h2, h3, h4, h0⟩ | ⟨h1, h2, h3, h0⟩ | ⟨h1, h2, h0⟩ | ⟨h1, h0⟩
  · obtain rfl : r = 0 := by rw [R.out, chP, h0]; rfl
    have H1 := hid h1
    have H2 := hid h2
    have H3 := hid h3
    have H4 := hid h4
    have H5 := hid h5
    have H6 := hid h6
    have H7 := hid h7
    clear h0 R h1 h2 h3 h4 h5 h6 h7
    go_enter Try.func28, Try.ntmps28
    go_wp2_with ((go_at_call 37; first | (with_reducible refine (within7_b H1.out _).mono ?_) | (with_reducible refine (within7_b H2.out _).mono ?_) | (with_reducible refine (within7_b H3.out _).mono ?_) | (with_reducible refine (within7_b H4.out _).mono ?_) | (with_reducible refine (within7_b H5.out _).mono ?_) | (with_reducible refine (within7_b H6.out _).mono ?_) | (with_reducible refine (within7_b H7.out _).mono ?_)); (rintro e w' ⟨rfl, rfl⟩))
    go_ret
    exact ⟨rfl, (Only.refl _ _).alloc _⟩
  · obtain rfl : r = 3 := by rw [R.out, chP, h0]; rfl
    have H1 := hid h1
    have H2 := hid h2
    have H3 := hid h3
    have H4 := hid h4
    have H5 := hid h5
    have H6 := hid h6
    have H7 := hid h7
    clear h0 R h1 h2 h3 h4 h5 h6 h7
    go_enter Try.func28, Try.ntmps28
    go_wp2_with ((go_at_call 37; first | (with_reducible refine (within7_b H1.out _).mono ?_) | (with_reducible refine (within7_b H2.out _).mono ?_) | (with_reducible refine (within7_b H3.out _).mono ?_) | (with_reducible refine (within7_b H4.out _).mono ?_) | (with_reducible refine (within7_b H5.out _).mono ?_) | (with_reducible refine (within7_b H6.out _).mono ?_) | (with_reducible refine (within7_b H7.out _).mono ?_)); (rintro e w' ⟨rfl, rfl⟩))
    go_ret
    exact ⟨rfl, (Only.refl _ _).alloc _⟩
  · obtain rfl : r = 3 := by rw [R.out, chP, h0]; rfl
    have H1 := hid h1
    have H2 := hid h2
    have H3 := hid h3
    have H4 := hid h4
    have H5 := hid h5
    have H6 := hid h6
    clear h0 R h1 h2 h3 h4 h5 h6
    go_enter Try.func28, Try.ntmps28
    go_wp2_with ((go_at_call 37; first | (with_reducible refine (within7_b H1.out _).mono ?_) | (with_reducible refine (within7_b H2.out _).mono ?_) | (with_reducible refine (within7_b H3.out _).mono ?_) | (with_reducible refine (within7_b H4.out _).mono ?_) | (with_reducible refine (within7_b H5.out _).mono ?_) | (with_reducible refine (within7_b H6.out _).mono ?_)); (rintro e w' ⟨rfl, rfl⟩))
    go_ret
    exact ⟨rfl, (Only.refl _ _).alloc _⟩
  · obtain rfl : r = 3 := by rw [R.out, chP, h0]; rfl
    have H1 := hid h1
    have H2 := hid h2
    have H3 := hid h3
    have H4 := hid h4
    have H5 := hid h5
    clear h0 R h1 h2 h3 h4 h5
    go_enter Try.func28, Try.ntmps28
    go_wp2_with ((go_at_call 37; first | (with_reducible refine (within7_b H1.out _).mono ?_) | (with_reducible refine (within7_b H2.out _).mono ?_) | (with_reducible refine (within7_b H3.out _).mono ?_) | (with_reducible refine (within7_b H4.out _).mono ?_) | (with_reducible refine (within7_b H5.out _).mono ?_)); (rintro e w' ⟨rfl, rfl⟩))
    go_ret
    exact ⟨rfl, (Only.refl _ _).alloc _⟩
  · obtain rfl : r = 3 := by rw [R.out, chP, h0]; rfl
    have H1 := hid h1
    have H2 := hid h2
    have H3 := hid h3
    have H4 := hid h4
    clear h0 R h1 h2 h3 h4
    go_enter Try.func28, Try.ntmps28
    go_wp2_with ((go_at_call 37; first | (with_reducible refine (within7_b H1.out _).mono ?_) | (with_reducible refine (within7_b H2.out _).mono ?_) | (with_reducible refine (within7_b H3.out _).mono ?_) | (with_reducible refine (within7_b H4.out _).mono ?_)); (rintro e w' ⟨rfl, rfl⟩))
    go_ret
    exact ⟨rfl, (Only.refl _ _).alloc _⟩
  · obtain rfl : r = 3 := by rw [R.out, chP, h0]; rfl
    have H1 := hid h1
    have H2 := hid h2
    have H3 := hid h3
    clear h0 R h1 h2 h3
    go_enter Try.func28, Try.ntmps28
    go_wp2_with ((go_at_call 37; first | (with_reducible refine (within7_b H1.out _).mono ?_) | (with_reducible refine (within7_b H2.out _).mono ?_) | (with_reducible refine (within7_b H3.out _).mono ?_)); (rintro e w' ⟨rfl, rfl⟩))
    go_ret
    exact ⟨rfl, (Only.refl _ _).alloc _⟩
  · obtain rfl : r = 3 := by rw [R.out, chP, h0]; rfl
    have H1 := hid h1
    have H2 := hid h2
    clear h0 R h1 h2
    go_enter Try.func28, Try.ntmps28
    go_wp2_with ((go_at_call 37; first | (with_reducible refine (within7_b H1.out _).mono ?_) | (with_reducible refine (within7_b H2.out _).mono ?_)); (rintro e w' ⟨rfl, rfl⟩))
    go_ret
    exact ⟨rfl, (Only.refl _ _).alloc _⟩
  · obtain rfl : r = 3 := by rw [R.out, chP, h0]; rfl
    have H1 := hid h1
    clear h0 R h1
    go_enter Try.func28, Try.ntmps28
    go_wp2_with ((go_at_call 37; first | (with_reducible refine (within7_b H1.out _).mono ?_)); (rintro e w' ⟨rfl, rfl⟩))
    go_ret
    exact ⟨rfl, (Only.refl _ _).alloc _⟩
end Go.Proofs.Ytkcjehajmofhfaa
