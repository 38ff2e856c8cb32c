/- The calls of a reader of package bits: what each returns, and what it changes. -/
/- The checks of parameter sets, of the program. -/
/- The reference's checks of parameter sets. -/
/- A region that draws its order, whose operations and callees turn nothing that was there (callees may make memory): one walk, in the order of the text. -/
import Derived.Test.YtjjjfmnhdnajkaaGreatDoorRows
import Derived.Test.YtjjjfmnhdnajkaaGreatDoorMg1
import Derived.RegionTactic
import Derived.ChangeAlike
import Derived.Deep.QuietTactic
import Derived.BigQuiet
section
set_option maxRecDepth 20000
namespace Go.Proofs.YtjjjfmnhdnajkaaGreatDoor
open Go.RowKit

set_option maxHeartbeats 400000 in
theorem read_any (s : ByteArray) (w : World) (hs : s.size ≤ 140737488351232) :
    Calls Tryz.prog 13 #[.string s] w fun e w' => e = .returned (.pointer (some ⟨w.heap.size, 0, none⟩)) ∧ Rd w' w.heap.size s 0 ∧ Only [] w w' := by
  go_enter Tryz.func13, Tryz.ntmps13
  go_wp2
  go_ret
  exact ⟨rfl, ⟨by simp, by simp, by simp, by omega, hs⟩, (Only.refl _ _).alloc _⟩

set_option maxHeartbeats 400000 in
theorem pos_any (b : Nat) (s : ByteArray) (pos : Nat) (w : World) (h : Rd w b s pos) :
    Calls Tryz.prog 41 #[.pointer (some ⟨b, 0, none⟩)] w fun e w' => e = .returned (.int .i64 pos) ∧ w = w' := by
  have hp := h.hp
  clear h
  go_enter Tryz.func41, Tryz.ntmps41
  go_wp2
  go_ret
  exact ⟨rfl, rfl⟩

set_option maxHeartbeats 400000 in
theorem left_any (b : Nat) (s : ByteArray) (pos : Nat) (w : World) (h : Rd w b s pos) :
    Calls Tryz.prog 120 #[.pointer (some ⟨b, 0, none⟩)] w fun e w' => e = .returned (.int .i64 (8 * (s.size : Int) - (pos : Int))) ∧ ∃ n, w' = w.drewN n := by
  have hp := h.hp
  have hs := h.hs
  have h1 := h.le
  have h2 := h.sz
  clear h
  go_enter Tryz.func120, Tryz.ntmps120
  go_wp2
  go_quiet (fail)
  go_wp2
  go_ret
  exact ⟨rfl, _, rfl⟩

set_option maxHeartbeats 400000 in
theorem copy_any (b : Nat) (s : ByteArray) (pos : Nat) (w : World) (h : Rd w b s pos) :
    Calls Tryz.prog 94 #[.pointer (some ⟨b, 0, none⟩)] w fun e w' => e = .returned (.pointer (some ⟨w.heap.size, 0, none⟩)) ∧ Rd w' w.heap.size s pos ∧ Only [] w w' := by
  have hp := h.hp
  have hs := h.hs
  have h1 := h.le
  have h2 := h.sz
  clear h
  go_enter Tryz.func94, Tryz.ntmps94
  go_wp2
  go_region
  all_goals
    go_wp2
    go_ret
    exact ⟨rfl, ⟨by simp, by simp, by simp, h1, h2⟩, ((Only.refl _ _).drew).alloc _⟩
end Go.Proofs.YtjjjfmnhdnajkaaGreatDoor

end
section
set_option maxRecDepth 20000
namespace Go.Proofs.YtjjjfmnhdnajkaaGreatDoor
open Go.RowKit
set_option linter.unusedVariables false

set_option maxHeartbeats 400000 in
theorem within6_any (v lo hi : Int) (w : World) : Calls Tryz.prog 101 #[.int .i64 v, .int .i64 lo, .int .i64 hi] w fun e w' => e = .returned (.bool (inB v lo hi)) ∧ w' = w := by
  by_cases h1 : lo ≤ v <;> by_cases h2 : v ≤ hi
  all_goals
    rw [show inB v lo hi = _ from by unfold inB; simp only [h1, h2]; rfl]
    go_enter Tryz.func101, Tryz.ntmps101
    go_wp2_with fail
    go_ret
    exact ⟨by simp, rfl⟩
set_option maxHeartbeats 400000 in
theorem within7_any (v lo hi : Int) (w : World) : Calls Tryz.prog 103 #[.int .i64 v, .int .i64 lo, .int .i64 hi] w fun e w' => e = .returned (.bool (inB v lo hi)) ∧ w' = w := by
  by_cases h1 : lo ≤ v <;> by_cases h2 : v ≤ hi
  all_goals
    rw [show inB v lo hi = _ from by unfold inB; simp only [h1, h2]; rfl]
    go_enter Tryz.func103, Tryz.ntmps103
    go_wp2_with fail
    go_ret
    exact ⟨by simp, rfl⟩
theorem within6_b {v lo hi : Int} {r : Bool} (h : inB v lo hi = r) (w : World) : Calls Tryz.prog 101 #[.int .i64 v, .int .i64 lo, .int .i64 hi] w fun e w' => e = .returned (.bool r) ∧ w' = w := h ▸ within6_any v lo hi w
theorem within7_b {v lo hi : Int} {r : Bool} (h : inB v lo hi = r) (w : World) : Calls Tryz.prog 103 #[.int .i64 v, .int .i64 lo, .int .i64 hi] w fun e w' => e = .returned (.bool r) ∧ w' = w := h ▸ within7_any v lo hi w
set_option maxHeartbeats 400000 in
theorem most_any (v : Int) (w : World) (h1 : 1 ≤ v) (h2 : v ≤ 128) : Calls Tryz.prog 102 #[.int .i64 v] w fun e w' => e = .returned (.int .i64 (mostH v)) ∧ w' = w := by
  have h0 : 0 ≤ v := by omega
  have hn : ¬ v = 0 := by omega
  go_enter Tryz.func102, Tryz.ntmps102
  go_wp2_with fail
  all_goals
    go_ret
    exact ⟨ret_int (by unfold mostH; omega), rfl⟩

set_option maxRecDepth 100000 in
set_option maxHeartbeats 8000000 in
theorem check6_any (x : SV) (w : World) : Calls Tryz.prog 47 #[sV x] w fun e w' => e = .returned (.int .i64 (chS x)) ∧ Only [] w w' := by
  obtain ⟨r, hr⟩ : ∃ r, r = chS x := ⟨_, rfl⟩
  rw [← hr]
  have R := hid hr
  clear hr
  rcases okS_cases x with ⟨h1, h2, h3, h4, h5, h6, h0⟩ | ⟨h1, h2, h3, h4, h5, h6, h0⟩ | ⟨h1, h2, h3, h4, h5, h0⟩ | ⟨h1, h2, h3, h4, h0⟩ | ⟨h1, h2, h3, h0⟩ | ⟨h1, h2, h0⟩ | ⟨h1, h0⟩
  · obtain rfl : r = 0 := by rw [R.out, chS, h0]; rfl
    have b1 := (inB_true h5).1
    have b2 := (inB_true h5).2
    have H1 := hid h1
    have H2 := hid h2
    have H3 := hid h3
    have H4 := hid h4
    have H5 := hid h5
    have H6 := hid h6
    clear h0 R h1 h2 h3 h4 h5 h6
    go_enter Tryz.func47, Tryz.ntmps47
    go_wp2_with fail
    go_quiet (first | (go_at_call 101; first | with_reducible exact Calls.quiet_of_same (within6_b H1.out _) | with_reducible exact Calls.quiet_of_same (within6_b H2.out _) | with_reducible exact Calls.quiet_of_same (within6_b H3.out _) | with_reducible exact Calls.quiet_of_same (within6_b H4.out _) | with_reducible exact Calls.quiet_of_same (within6_b H5.out _) | with_reducible exact Calls.quiet_of_same (within6_b H6.out _)) | (go_at_call 102; with_reducible exact Calls.quiet_of_same (most_any _ _ b1 b2)))
    go_wp2_with fail
    go_ret
    exact ⟨rfl, ((Only.refl _ _).alloc _).drewN _⟩
  · obtain rfl : r = 3 := by rw [R.out, chS, h0]; rfl
    have b1 := (inB_true h5).1
    have b2 := (inB_true h5).2
    have H1 := hid h1
    have H2 := hid h2
    have H3 := hid h3
    have H4 := hid h4
    have H5 := hid h5
    have H6 := hid h6
    clear h0 R h1 h2 h3 h4 h5 h6
    go_enter Tryz.func47, Tryz.ntmps47
    go_wp2_with fail
    go_quiet (first | (go_at_call 101; first | with_reducible exact Calls.quiet_of_same (within6_b H1.out _) | with_reducible exact Calls.quiet_of_same (within6_b H2.out _) | with_reducible exact Calls.quiet_of_same (within6_b H3.out _) | with_reducible exact Calls.quiet_of_same (within6_b H4.out _) | with_reducible exact Calls.quiet_of_same (within6_b H5.out _) | with_reducible exact Calls.quiet_of_same (within6_b H6.out _)) | (go_at_call 102; with_reducible exact Calls.quiet_of_same (most_any _ _ b1 b2)))
    go_wp2_with fail
    go_ret
    exact ⟨rfl, ((Only.refl _ _).alloc _).drewN _⟩
  · obtain rfl : r = 3 := by rw [R.out, chS, h0]; rfl
    have H1 := hid h1
    have H2 := hid h2
    have H3 := hid h3
    have H4 := hid h4
    have H5 := hid h5
    clear h0 R h1 h2 h3 h4 h5
    go_enter Tryz.func47, Tryz.ntmps47
    go_wp2_with fail
    go_quiet (first | (go_at_call 101; first | with_reducible exact Calls.quiet_of_same (within6_b H1.out _) | with_reducible exact Calls.quiet_of_same (within6_b H2.out _) | with_reducible exact Calls.quiet_of_same (within6_b H3.out _) | with_reducible exact Calls.quiet_of_same (within6_b H4.out _) | with_reducible exact Calls.quiet_of_same (within6_b H5.out _)))
    go_wp2_with fail
    go_ret
    exact ⟨rfl, ((Only.refl _ _).alloc _).drewN _⟩
  · obtain rfl : r = 3 := by rw [R.out, chS, h0]; rfl
    have H1 := hid h1
    have H2 := hid h2
    have H3 := hid h3
    have H4 := hid h4
    clear h0 R h1 h2 h3 h4
    go_enter Tryz.func47, Tryz.ntmps47
    go_wp2_with fail
    go_quiet (first | (go_at_call 101; first | with_reducible exact Calls.quiet_of_same (within6_b H1.out _) | with_reducible exact Calls.quiet_of_same (within6_b H2.out _) | with_reducible exact Calls.quiet_of_same (within6_b H3.out _) | with_reducible exact Calls.quiet_of_same (within6_b H4.out _)))
    go_wp2_with fail
    go_ret
    exact ⟨rfl, ((Only.refl _ _).alloc _).drewN _⟩
  · obtain rfl : r = 3 := by rw [R.out, chS, h0]; rfl
    have H1 := hid h1
    have H2 := hid h2
    have H3 := hid h3
    clear h0 R h1 h2 h3
    go_enter Tryz.func47, Tryz.ntmps47
    go_wp2_with fail
    go_quiet (first | (go_at_call 101; first | with_reducible exact Calls.quiet_of_same (within6_b H1.out _) | with_reducible exact Calls.quiet_of_same (within6_b H2.out _) | with_reducible exact Calls.quiet_of_same (within6_b H3.out _)))
    go_wp2_with fail
    go_ret
    exact ⟨rfl, ((Only.refl _ _).alloc _).drewN _⟩
  · obtain rfl : r = 3 := by rw [R.out, chS, h0]; rfl
    have H1 := hid h1
    have H2 := hid h2
    clear h0 R h1 h2
    go_enter Tryz.func47, Tryz.ntmps47
    go_wp2_with fail
    go_quiet (first | (go_at_call 101; first | with_reducible exact Calls.quiet_of_same (within6_b H1.out _) | with_reducible exact Calls.quiet_of_same (within6_b H2.out _)))
    go_wp2_with fail
    go_ret
    exact ⟨rfl, ((Only.refl _ _).alloc _).drewN _⟩
  · obtain rfl : r = 3 := by rw [R.out, chS, h0]; rfl
    have H1 := hid h1
    clear h0 R h1
    go_enter Tryz.func47, Tryz.ntmps47
    go_wp2_with fail
    go_quiet (first | (go_at_call 101; first | with_reducible exact Calls.quiet_of_same (within6_b H1.out _)))
    go_wp2_with fail
    go_ret
    exact ⟨rfl, ((Only.refl _ _).alloc _).drewN _⟩
set_option maxRecDepth 100000 in
set_option maxHeartbeats 8000000 in
theorem check7_any (x : PV) (w : World) : Calls Tryz.prog 48 #[pV x] w fun e w' => e = .returned (.int .i64 (chP x)) ∧ Only [] w w' := by
  obtain ⟨r, hr⟩ : ∃ r, r = chP x := ⟨_, rfl⟩
  rw [← hr]
  have R := hid hr
  clear hr
  rcases okP_cases x with ⟨h1, h2, h3, h4, h5, h6, h7, h0⟩ | ⟨h1, h2, h3, h4, h5, h6, h7, h0⟩ | ⟨h1, h2, h3, h4, h5, h6, h0⟩ | ⟨h1, h2, h3, h4, h5, h0⟩ | ⟨h1, h2, h3, h4, h0⟩ | ⟨h1, h2, h3, h0⟩ | ⟨h1, h2, h0⟩ | ⟨h1, h0⟩
  · obtain rfl : r = 0 := by rw [R.out, chP, h0]; rfl
    have H1 := hid h1
    have H2 := hid h2
    have H3 := hid h3
    have H4 := hid h4
    have H5 := hid h5
    have H6 := hid h6
    have H7 := hid h7
    clear h0 R h1 h2 h3 h4 h5 h6 h7
    go_enter Tryz.func48, Tryz.ntmps48
    go_wp2_with ((go_at_call 103; first | (with_reducible refine (within7_b H1.out _).mono ?_) | (with_reducible refine (within7_b H2.out _).mono ?_) | (with_reducible refine (within7_b H3.out _).mono ?_) | (with_reducible refine (within7_b H4.out _).mono ?_) | (with_reducible refine (within7_b H5.out _).mono ?_) | (with_reducible refine (within7_b H6.out _).mono ?_) | (with_reducible refine (within7_b H7.out _).mono ?_)); (rintro e w' ⟨rfl, rfl⟩))
    go_ret
    exact ⟨rfl, (Only.refl _ _).alloc _⟩
  · obtain rfl : r = 3 := by rw [R.out, chP, h0]; rfl
    have H1 := hid h1
    have H2 := hid h2
    have H3 := hid h3
    have H4 := hid h4
    have H5 := hid h5
    have H6 := hid h6
    have H7 := hid h7
    clear h0 R h1 h2 h3 h4 h5 h6 h7
    go_enter Tryz.func48, Tryz.ntmps48
    go_wp2_with ((go_at_call 103; first | (with_reducible refine (within7_b H1.out _).mono ?_) | (with_reducible refine (within7_b H2.out _).mono ?_) | (with_reducible refine (within7_b H3.out _).mono ?_) | (with_reducible refine (within7_b H4.out _).mono ?_) | (with_reducible refine (within7_b H5.out _).mono ?_) | (with_reducible refine (within7_b H6.out _).mono ?_) | (with_reducible refine (within7_b H7.out _).mono ?_)); (rintro e w' ⟨rfl, rfl⟩))
    go_ret
    exact ⟨rfl, (Only.refl _ _).alloc _⟩
  · obtain rfl : r = 3 := by rw [R.out, chP, h0]; rfl
    have H1 := hid h1
    have H2 := hid h2
    have H3 := hid h3
    have H4 := hid h4
    have H5 := hid h5
    have H6 := hid h6
    clear h0 R h1 h2 h3 h4 h5 h6
    go_enter Tryz.func48, Tryz.ntmps48
    go_wp2_with ((go_at_call 103; first | (with_reducible refine (within7_b H1.out _).mono ?_) | (with_reducible refine (within7_b H2.out _).mono ?_) | (with_reducible refine (within7_b H3.out _).mono ?_) | (with_reducible refine (within7_b H4.out _).mono ?_) | (with_reducible refine (within7_b H5.out _).mono ?_) | (with_reducible refine (within7_b H6.out _).mono ?_)); (rintro e w' ⟨rfl, rfl⟩))
    go_ret
    exact ⟨rfl, (Only.refl _ _).alloc _⟩
  · obtain rfl : r = 3 := by rw [R.out, chP, h0]; rfl
    have H1 := hid h1
    have H2 := hid h2
    have H3 := hid h3
    have H4 := hid h4
    have H5 := hid h5
    clear h0 R h1 h2 h3 h4 h5
    go_enter Tryz.func48, Tryz.ntmps48
    go_wp2_with ((go_at_call 103; first | (with_reducible refine (within7_b H1.out _).mono ?_) | (with_reducible refine (within7_b H2.out _).mono ?_) | (with_reducible refine (within7_b H3.out _).mono ?_) | (with_reducible refine (within7_b H4.out _).mono ?_) | (with_reducible refine (within7_b H5.out _).mono ?_)); (rintro e w' ⟨rfl, rfl⟩))
    go_ret
    exact ⟨rfl, (Only.refl _ _).alloc _⟩
  · obtain rfl : r = 3 := by rw [R.out, chP, h0]; rfl
    have H1 := hid h1
    have H2 := hid h2
    have H3 := hid h3
    have H4 := hid h4
    clear h0 R h1 h2 h3 h4
    go_enter Tryz.func48, Tryz.ntmps48
    go_wp2_with ((go_at_call 103; first | (with_reducible refine (within7_b H1.out _).mono ?_) | (with_reducible refine (within7_b H2.out _).mono ?_) | (with_reducible refine (within7_b H3.out _).mono ?_) | (with_reducible refine (within7_b H4.out _).mono ?_)); (rintro e w' ⟨rfl, rfl⟩))
    go_ret
    exact ⟨rfl, (Only.refl _ _).alloc _⟩
  · obtain rfl : r = 3 := by rw [R.out, chP, h0]; rfl
    have H1 := hid h1
    have H2 := hid h2
    have H3 := hid h3
    clear h0 R h1 h2 h3
    go_enter Tryz.func48, Tryz.ntmps48
    go_wp2_with ((go_at_call 103; first | (with_reducible refine (within7_b H1.out _).mono ?_) | (with_reducible refine (within7_b H2.out _).mono ?_) | (with_reducible refine (within7_b H3.out _).mono ?_)); (rintro e w' ⟨rfl, rfl⟩))
    go_ret
    exact ⟨rfl, (Only.refl _ _).alloc _⟩
  · obtain rfl : r = 3 := by rw [R.out, chP, h0]; rfl
    have H1 := hid h1
    have H2 := hid h2
    clear h0 R h1 h2
    go_enter Tryz.func48, Tryz.ntmps48
    go_wp2_with ((go_at_call 103; first | (with_reducible refine (within7_b H1.out _).mono ?_) | (with_reducible refine (within7_b H2.out _).mono ?_)); (rintro e w' ⟨rfl, rfl⟩))
    go_ret
    exact ⟨rfl, (Only.refl _ _).alloc _⟩
  · obtain rfl : r = 3 := by rw [R.out, chP, h0]; rfl
    have H1 := hid h1
    clear h0 R h1
    go_enter Tryz.func48, Tryz.ntmps48
    go_wp2_with ((go_at_call 103; first | (with_reducible refine (within7_b H1.out _).mono ?_)); (rintro e w' ⟨rfl, rfl⟩))
    go_ret
    exact ⟨rfl, (Only.refl _ _).alloc _⟩
end Go.Proofs.YtjjjfmnhdnajkaaGreatDoor

end
section
set_option maxRecDepth 20000
namespace Go.Proofs.YtjjjfmnhdnajkaaGreatDoor
open Go.RowKit
set_option linter.unusedVariables false

theorem ht_ok {wd ht : Int} (h : inB wd 1 128 = true) : inB ht 1 (mostH wd) = (inB ht 1 128 && decide (wd * ht ≤ 8160)) := by
  obtain ⟨h1, h2⟩ := inB_true h
  have e : ht ≤ 8160 / wd ↔ wd * ht ≤ 8160 := by rw [Int.le_ediv_iff_mul_le (by omega), Int.mul_comm]
  have e2 : (1 ≤ ht ∧ ht ≤ mostH wd) ↔ ((1 ≤ ht ∧ ht ≤ 128) ∧ wd * ht ≤ 8160) := by
    unfold mostH
    rw [Int.le_min, e]
    exact ⟨fun ⟨a, b, c⟩ => ⟨⟨a, b⟩, c⟩, fun ⟨⟨a, b⟩, c⟩ => ⟨a, b, c⟩⟩
  rw [Bool.eq_iff_iff, Bool.and_eq_true]
  unfold inB
  rw [decide_eq_true_eq, decide_eq_true_eq, decide_eq_true_eq]
  exact e2
theorem prod_bound {wd ht : Int} (h : inB wd 1 128 = true) (k : inB ht 1 128 = true) : 0 ≤ wd * ht ∧ wd * ht ≤ 16384 := by
  obtain ⟨h1, h2⟩ := inB_true h
  obtain ⟨k1, k2⟩ := inB_true k
  refine ⟨Int.mul_nonneg (by omega) (by omega), ?_⟩
  calc wd * ht ≤ 128 * 128 := Int.mul_le_mul h2 k2 (by omega) (by omega)
    _ = 16384 := by decide
set_option maxHeartbeats 400000 in
theorem rwithin6_any (v lo hi : Int) (w : World) : Calls Tryz.prog 105 #[.int .i64 v, .int .i64 lo, .int .i64 hi] w fun e w' => e = .returned (.bool (inB v lo hi)) ∧ w' = w := by
  by_cases h1 : lo ≤ v <;> by_cases h2 : v ≤ hi
  all_goals
    rw [show inB v lo hi = _ from by unfold inB; simp only [h1, h2]; rfl]
    go_enter Tryz.func105, Tryz.ntmps105
    go_wp2_with fail
    go_ret
    exact ⟨by simp, rfl⟩
theorem rwithin6_b {v lo hi : Int} {r : Bool} (h : inB v lo hi = r) (w : World) : Calls Tryz.prog 105 #[.int .i64 v, .int .i64 lo, .int .i64 hi] w fun e w' => e = .returned (.bool r) ∧ w' = w := h ▸ rwithin6_any v lo hi w
set_option maxHeartbeats 400000 in
theorem rwithin7_any (v lo hi : Int) (w : World) : Calls Tryz.prog 106 #[.int .i64 v, .int .i64 lo, .int .i64 hi] w fun e w' => e = .returned (.bool (inB v lo hi)) ∧ w' = w := by
  by_cases h1 : lo ≤ v <;> by_cases h2 : v ≤ hi
  all_goals
    rw [show inB v lo hi = _ from by unfold inB; simp only [h1, h2]; rfl]
    go_enter Tryz.func106, Tryz.ntmps106
    go_wp2_with fail
    go_ret
    exact ⟨by simp, rfl⟩
theorem rwithin7_b {v lo hi : Int} {r : Bool} (h : inB v lo hi = r) (w : World) : Calls Tryz.prog 106 #[.int .i64 v, .int .i64 lo, .int .i64 hi] w fun e w' => e = .returned (.bool r) ∧ w' = w := h ▸ rwithin7_any v lo hi w
set_option maxRecDepth 100000 in
set_option maxHeartbeats 8000000 in
theorem rcheck6_any (x : SV) (w : World) : Calls Tryz.prog 53 #[sV x] w fun e w' => e = .returned (.int .i64 (chS x)) ∧ Only [] w w' := by
  obtain ⟨r, hr⟩ : ∃ r, r = chS x := ⟨_, rfl⟩
  rw [← hr]
  have R := hid hr
  clear hr
  cases h1 : inB x.id 0 31 with
  | false =>
    obtain rfl : r = 3 := by rw [R.out, chS, show okS x = false by unfold okS; simp only [h1]; simp]; rfl
    have H1 := hid h1
    clear R h1
    go_enter Tryz.func53, Tryz.ntmps53
    go_wp2_with ((go_at_call 105; first | (with_reducible refine (rwithin6_b H1.out _).mono ?_)); (rintro e w' ⟨rfl, rfl⟩))
    go_ret
    exact ⟨rfl, (Only.refl _ _).alloc _⟩
  | true =>
    cases h2 : inB x.fb 4 16 with
    | false =>
      obtain rfl : r = 3 := by rw [R.out, chS, show okS x = false by unfold okS; simp only [h1, h2]; simp]; rfl
      have H1 := hid h1
      have H2 := hid h2
      clear R h1 h2
      go_enter Tryz.func53, Tryz.ntmps53
      go_wp2_with ((go_at_call 105; first | (with_reducible refine (rwithin6_b H1.out _).mono ?_) | (with_reducible refine (rwithin6_b H2.out _).mono ?_)); (rintro e w' ⟨rfl, rfl⟩))
      go_ret
      exact ⟨rfl, (Only.refl _ _).alloc _⟩
    | true =>
      cases h3 : inB x.pb 4 16 with
      | false =>
        obtain rfl : r = 3 := by rw [R.out, chS, show okS x = false by unfold okS; simp only [h1, h2, h3]; simp]; rfl
        have H1 := hid h1
        have H2 := hid h2
        have H3 := hid h3
        clear R h1 h2 h3
        go_enter Tryz.func53, Tryz.ntmps53
        go_wp2_with ((go_at_call 105; first | (with_reducible refine (rwithin6_b H1.out _).mono ?_) | (with_reducible refine (rwithin6_b H2.out _).mono ?_) | (with_reducible refine (rwithin6_b H3.out _).mono ?_)); (rintro e w' ⟨rfl, rfl⟩))
        go_ret
        exact ⟨rfl, (Only.refl _ _).alloc _⟩
      | true =>
        cases h4 : inB x.rf 0 16 with
        | false =>
          obtain rfl : r = 3 := by rw [R.out, chS, show okS x = false by unfold okS; simp only [h1, h2, h3, h4]; simp]; rfl
          have H1 := hid h1
          have H2 := hid h2
          have H3 := hid h3
          have H4 := hid h4
          clear R h1 h2 h3 h4
          go_enter Tryz.func53, Tryz.ntmps53
          go_wp2_with ((go_at_call 105; first | (with_reducible refine (rwithin6_b H1.out _).mono ?_) | (with_reducible refine (rwithin6_b H2.out _).mono ?_) | (with_reducible refine (rwithin6_b H3.out _).mono ?_) | (with_reducible refine (rwithin6_b H4.out _).mono ?_)); (rintro e w' ⟨rfl, rfl⟩))
          go_ret
          exact ⟨rfl, (Only.refl _ _).alloc _⟩
        | true =>
          cases h5 : inB x.wd 1 128 with
          | false =>
            obtain rfl : r = 3 := by rw [R.out, chS, show okS x = false by unfold okS; simp only [h1, h2, h3, h4, h5]; simp]; rfl
            have H1 := hid h1
            have H2 := hid h2
            have H3 := hid h3
            have H4 := hid h4
            have H5 := hid h5
            clear R h1 h2 h3 h4 h5
            go_enter Tryz.func53, Tryz.ntmps53
            go_wp2_with ((go_at_call 105; first | (with_reducible refine (rwithin6_b H1.out _).mono ?_) | (with_reducible refine (rwithin6_b H2.out _).mono ?_) | (with_reducible refine (rwithin6_b H3.out _).mono ?_) | (with_reducible refine (rwithin6_b H4.out _).mono ?_) | (with_reducible refine (rwithin6_b H5.out _).mono ?_)); (rintro e w' ⟨rfl, rfl⟩))
            go_ret
            exact ⟨rfl, (Only.refl _ _).alloc _⟩
          | true =>
            cases h6 : inB x.ht 1 128 with
            | false =>
              obtain rfl : r = 3 := by rw [R.out, chS, show okS x = false by unfold okS; rw [ht_ok h5, h6]; simp]; rfl
              have H1 := hid h1
              have H2 := hid h2
              have H3 := hid h3
              have H4 := hid h4
              have H5 := hid h5
              have H6 := hid h6
              clear R h1 h2 h3 h4 h5 h6
              go_enter Tryz.func53, Tryz.ntmps53
              go_wp2_with ((go_at_call 105; first | (with_reducible refine (rwithin6_b H1.out _).mono ?_) | (with_reducible refine (rwithin6_b H2.out _).mono ?_) | (with_reducible refine (rwithin6_b H3.out _).mono ?_) | (with_reducible refine (rwithin6_b H4.out _).mono ?_) | (with_reducible refine (rwithin6_b H5.out _).mono ?_) | (with_reducible refine (rwithin6_b H6.out _).mono ?_)); (rintro e w' ⟨rfl, rfl⟩))
              go_ret
              exact ⟨rfl, (Only.refl _ _).alloc _⟩
            | true =>
              obtain ⟨p0, p1⟩ := prod_bound h5 h6
              by_cases hp : x.wd * x.ht ≤ 8160
              · obtain rfl : r = 0 := by rw [R.out, chS, show okS x = true by unfold okS; rw [ht_ok h5, h1, h2, h3, h4, h5, h6, decide_eq_true hp]; rfl]; rfl
                have hp' : ¬ 8160 < x.wd * x.ht := by omega
                have H1 := hid h1
                have H2 := hid h2
                have H3 := hid h3
                have H4 := hid h4
                have H5 := hid h5
                have H6 := hid h6
                clear R h1 h2 h3 h4 h5 h6 hp
                go_enter Tryz.func53, Tryz.ntmps53
                go_wp2_with ((go_at_call 105; first | (with_reducible refine (rwithin6_b H1.out _).mono ?_) | (with_reducible refine (rwithin6_b H2.out _).mono ?_) | (with_reducible refine (rwithin6_b H3.out _).mono ?_) | (with_reducible refine (rwithin6_b H4.out _).mono ?_) | (with_reducible refine (rwithin6_b H5.out _).mono ?_) | (with_reducible refine (rwithin6_b H6.out _).mono ?_)); (rintro e w' ⟨rfl, rfl⟩))
                go_ret
                exact ⟨rfl, (Only.refl _ _).alloc _⟩
              · obtain rfl : r = 3 := by rw [R.out, chS, show okS x = false by unfold okS; rw [ht_ok h5, decide_eq_false hp]; simp]; rfl
                have hp' : 8160 < x.wd * x.ht := by omega
                have H1 := hid h1
                have H2 := hid h2
                have H3 := hid h3
                have H4 := hid h4
                have H5 := hid h5
                have H6 := hid h6
                clear R h1 h2 h3 h4 h5 h6 hp
                go_enter Tryz.func53, Tryz.ntmps53
                go_wp2_with ((go_at_call 105; first | (with_reducible refine (rwithin6_b H1.out _).mono ?_) | (with_reducible refine (rwithin6_b H2.out _).mono ?_) | (with_reducible refine (rwithin6_b H3.out _).mono ?_) | (with_reducible refine (rwithin6_b H4.out _).mono ?_) | (with_reducible refine (rwithin6_b H5.out _).mono ?_) | (with_reducible refine (rwithin6_b H6.out _).mono ?_)); (rintro e w' ⟨rfl, rfl⟩))
                go_ret
                exact ⟨rfl, (Only.refl _ _).alloc _⟩
set_option maxRecDepth 100000 in
set_option maxHeartbeats 8000000 in
theorem rcheck7_any (x : PV) (w : World) : Calls Tryz.prog 54 #[pV x] w fun e w' => e = .returned (.int .i64 (chP x)) ∧ Only [] w w' := by
  obtain ⟨r, hr⟩ : ∃ r, r = chP x := ⟨_, rfl⟩
  rw [← hr]
  have R := hid hr
  clear hr
  cases h1 : inB x.id 0 31 with
  | false =>
    obtain rfl : r = 3 := by rw [R.out, chP, show okP x = false by unfold okP; simp only [h1]; simp]; rfl
    have H1 := hid h1
    clear R h1
    go_enter Tryz.func54, Tryz.ntmps54
    go_wp2_with ((go_at_call 106; first | (with_reducible refine (rwithin7_b H1.out _).mono ?_)); (rintro e w' ⟨rfl, rfl⟩))
    go_ret
    exact ⟨rfl, (Only.refl _ _).alloc _⟩
  | true =>
    cases h2 : inB x.sps 0 31 with
    | false =>
      obtain rfl : r = 3 := by rw [R.out, chP, show okP x = false by unfold okP; simp only [h1, h2]; simp]; rfl
      have H1 := hid h1
      have H2 := hid h2
      clear R h1 h2
      go_enter Tryz.func54, Tryz.ntmps54
      go_wp2_with ((go_at_call 106; first | (with_reducible refine (rwithin7_b H1.out _).mono ?_) | (with_reducible refine (rwithin7_b H2.out _).mono ?_)); (rintro e w' ⟨rfl, rfl⟩))
      go_ret
      exact ⟨rfl, (Only.refl _ _).alloc _⟩
    | true =>
      cases h3 : inB x.rf 1 32 with
      | false =>
        obtain rfl : r = 3 := by rw [R.out, chP, show okP x = false by unfold okP; simp only [h1, h2, h3]; simp]; rfl
        have H1 := hid h1
        have H2 := hid h2
        have H3 := hid h3
        clear R h1 h2 h3
        go_enter Tryz.func54, Tryz.ntmps54
        go_wp2_with ((go_at_call 106; first | (with_reducible refine (rwithin7_b H1.out _).mono ?_) | (with_reducible refine (rwithin7_b H2.out _).mono ?_) | (with_reducible refine (rwithin7_b H3.out _).mono ?_)); (rintro e w' ⟨rfl, rfl⟩))
        go_ret
        exact ⟨rfl, (Only.refl _ _).alloc _⟩
      | true =>
        cases h4 : inB x.r1 1 32 with
        | false =>
          obtain rfl : r = 3 := by rw [R.out, chP, show okP x = false by unfold okP; simp only [h1, h2, h3, h4]; simp]; rfl
          have H1 := hid h1
          have H2 := hid h2
          have H3 := hid h3
          have H4 := hid h4
          clear R h1 h2 h3 h4
          go_enter Tryz.func54, Tryz.ntmps54
          go_wp2_with ((go_at_call 106; first | (with_reducible refine (rwithin7_b H1.out _).mono ?_) | (with_reducible refine (rwithin7_b H2.out _).mono ?_) | (with_reducible refine (rwithin7_b H3.out _).mono ?_) | (with_reducible refine (rwithin7_b H4.out _).mono ?_)); (rintro e w' ⟨rfl, rfl⟩))
          go_ret
          exact ⟨rfl, (Only.refl _ _).alloc _⟩
        | true =>
          cases h5 : inB x.qp (-26) 25 with
          | false =>
            obtain rfl : r = 3 := by rw [R.out, chP, show okP x = false by unfold okP; simp only [h1, h2, h3, h4, h5]; simp]; rfl
            have H1 := hid h1
            have H2 := hid h2
            have H3 := hid h3
            have H4 := hid h4
            have H5 := hid h5
            clear R h1 h2 h3 h4 h5
            go_enter Tryz.func54, Tryz.ntmps54
            go_wp2_with ((go_at_call 106; first | (with_reducible refine (rwithin7_b H1.out _).mono ?_) | (with_reducible refine (rwithin7_b H2.out _).mono ?_) | (with_reducible refine (rwithin7_b H3.out _).mono ?_) | (with_reducible refine (rwithin7_b H4.out _).mono ?_) | (with_reducible refine (rwithin7_b H5.out _).mono ?_)); (rintro e w' ⟨rfl, rfl⟩))
            go_ret
            exact ⟨rfl, (Only.refl _ _).alloc _⟩
          | true =>
            cases h6 : inB x.qs (-26) 25 with
            | false =>
              obtain rfl : r = 3 := by rw [R.out, chP, show okP x = false by unfold okP; simp only [h1, h2, h3, h4, h5, h6]; simp]; rfl
              have H1 := hid h1
              have H2 := hid h2
              have H3 := hid h3
              have H4 := hid h4
              have H5 := hid h5
              have H6 := hid h6
              clear R h1 h2 h3 h4 h5 h6
              go_enter Tryz.func54, Tryz.ntmps54
              go_wp2_with ((go_at_call 106; first | (with_reducible refine (rwithin7_b H1.out _).mono ?_) | (with_reducible refine (rwithin7_b H2.out _).mono ?_) | (with_reducible refine (rwithin7_b H3.out _).mono ?_) | (with_reducible refine (rwithin7_b H4.out _).mono ?_) | (with_reducible refine (rwithin7_b H5.out _).mono ?_) | (with_reducible refine (rwithin7_b H6.out _).mono ?_)); (rintro e w' ⟨rfl, rfl⟩))
              go_ret
              exact ⟨rfl, (Only.refl _ _).alloc _⟩
            | true =>
              cases h7 : inB x.ch (-12) 12 with
              | false =>
                obtain rfl : r = 3 := by rw [R.out, chP, show okP x = false by unfold okP; simp only [h1, h2, h3, h4, h5, h6, h7]; simp]; rfl
                have H1 := hid h1
                have H2 := hid h2
                have H3 := hid h3
                have H4 := hid h4
                have H5 := hid h5
                have H6 := hid h6
                have H7 := hid h7
                clear R h1 h2 h3 h4 h5 h6 h7
                go_enter Tryz.func54, Tryz.ntmps54
                go_wp2_with ((go_at_call 106; first | (with_reducible refine (rwithin7_b H1.out _).mono ?_) | (with_reducible refine (rwithin7_b H2.out _).mono ?_) | (with_reducible refine (rwithin7_b H3.out _).mono ?_) | (with_reducible refine (rwithin7_b H4.out _).mono ?_) | (with_reducible refine (rwithin7_b H5.out _).mono ?_) | (with_reducible refine (rwithin7_b H6.out _).mono ?_) | (with_reducible refine (rwithin7_b H7.out _).mono ?_)); (rintro e w' ⟨rfl, rfl⟩))
                go_ret
                exact ⟨rfl, (Only.refl _ _).alloc _⟩
              | true =>
                obtain rfl : r = 0 := by rw [R.out, chP, show okP x = true by unfold okP; rw [h1, h2, h3, h4, h5, h6, h7]; rfl]; rfl
                have H1 := hid h1
                have H2 := hid h2
                have H3 := hid h3
                have H4 := hid h4
                have H5 := hid h5
                have H6 := hid h6
                have H7 := hid h7
                clear R h1 h2 h3 h4 h5 h6 h7
                go_enter Tryz.func54, Tryz.ntmps54
                go_wp2_with ((go_at_call 106; first | (with_reducible refine (rwithin7_b H1.out _).mono ?_) | (with_reducible refine (rwithin7_b H2.out _).mono ?_) | (with_reducible refine (rwithin7_b H3.out _).mono ?_) | (with_reducible refine (rwithin7_b H4.out _).mono ?_) | (with_reducible refine (rwithin7_b H5.out _).mono ?_) | (with_reducible refine (rwithin7_b H6.out _).mono ?_) | (with_reducible refine (rwithin7_b H7.out _).mono ?_)); (rintro e w' ⟨rfl, rfl⟩))
                go_ret
                exact ⟨rfl, (Only.refl _ _).alloc _⟩
end Go.Proofs.YtjjjfmnhdnajkaaGreatDoor

end
section
set_option maxRecDepth 20000
namespace Go.Proofs.YtjjjfmnhdnajkaaGreatDoor
set_option linter.unusedVariables false
set_option linter.unusedSimpArgs false
open Go.RowKit

/-- The worlds that differ from w in new blocks alone. -/
def OnlyOf (w : World) : Type := { w' : World // Only [] w w' }
def OnlyOf.at {w : World} (x : OnlyOf w) : World := x.1
theorem OnlyOf.only {w : World} (x : OnlyOf w) : Only [] w x.at := x.2
instance OnlyOf.some (w : World) : Nonempty (OnlyOf w) := ⟨⟨w, Only.refl _ _⟩⟩

theorem wp_region_only {P : Program} {id : Nat} {Q : Exit → Act → World → Prop} {a : Act} {w : World} {l : List Oper} (hm : P.follows .mixedOrders = true) (hB : Region.lexB .any l.toArray = true)
    (h : wpQuiet P l.toArray (fun w' => ∃ x : OnlyOf w, w' = x.at) (fun a' => ∀ w', (∃ x : OnlyOf w, w' = x.at) → Q .normal a' w') l a) : (Code.region id l.toArray true).wp P Q a w :=
  wp_region_quiet (C := fun w' => ∃ x : OnlyOf w, w' = x.at) hm hB ⟨⟨_, (Only.refl [] w).drew⟩, rfl⟩ (by simpa using h)

theorem Calls.only_of {P : Program} {f : FuncId} {args : Array Value} {w : World} {x : OnlyOf w} {v : Value} (h : Calls P f args x.at fun e w' => e = .returned v ∧ Only [] x.at w') :
    Calls P f args x.at fun e w'' => e = .returned v ∧ ∃ y : OnlyOf w, w'' = y.at :=
  h.mono fun _ w' ⟨he, ho⟩ => ⟨he, ⟨w', x.only.trans ho⟩, rfl⟩
theorem Calls.only_drew {P : Program} {f : FuncId} {args : Array Value} {w : World} {x : OnlyOf w} {v : Value} (h : Calls P f args x.at fun e w' => e = .returned v ∧ ∃ n, w' = x.at.drewN n) :
    Calls P f args x.at fun e w'' => e = .returned v ∧ ∃ y : OnlyOf w, w'' = y.at :=
  h.mono fun _ w' ⟨he, n, ho⟩ => ⟨he, ⟨w', by rw [ho]; exact x.only.drewN n⟩, rfl⟩
theorem Calls.only_same {P : Program} {f : FuncId} {args : Array Value} {w : World} {x : OnlyOf w} {v : Value} (h : Calls P f args x.at fun e w' => e = .returned v ∧ x.at = w') :
    Calls P f args x.at fun e w'' => e = .returned v ∧ ∃ y : OnlyOf w, w'' = y.at :=
  h.mono fun _ w' ⟨he, ho⟩ => ⟨he, x, ho.symm⟩
end Go.Proofs.YtjjjfmnhdnajkaaGreatDoor

end
