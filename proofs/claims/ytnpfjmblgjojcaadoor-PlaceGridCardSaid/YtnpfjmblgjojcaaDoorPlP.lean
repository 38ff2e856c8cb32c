/- The package place of the program: what its functions return, for any numbers. -/
import Derived.Test.YtnpfjmblgjojcaaDoorPlV
import Derived.BigQuiet
namespace Go.Proofs.YtnpfjmblgjojcaaDoor
open Go.RowKit
set_option linter.unusedVariables false
set_option linter.unusedSimpArgs false

set_option maxHeartbeats 400000 in
theorem isblk_any (k s : Int) (w : World) (b0 : -9223372036854775808 ≤ k) (b1 : k ≤ 9223372036854775807) (hs : s = 2 ∨ s = 4) : Calls Tryd.prog 26 #[.int .i64 k, .int .i64 s] w fun e w' => e = .returned (.bool (decide (0 ≤ k ∧ k < s * s))) ∧ w' = w := by
  rcases hs with rfl | rfl
  all_goals
    by_cases h0 : 0 ≤ k
    · by_cases h1 : k < 4
      · rw [decide_eq_true (by omega)]
        have dk : decide (k < 4) = true := decide_eq_true h1
        have dk2 : decide (k < 16) = true := decide_eq_true (by omega)
        go_enter Tryd.func26, Tryd.ntmps26
        go_wp2_with fail
        go_ret
        exact ⟨rfl, rfl⟩
      · by_cases h2 : k < 16
        · first | rw [decide_eq_true (by omega)] | rw [decide_eq_false (by omega)]
          have dk : decide (k < 4) = false := decide_eq_false h1
          have dk2 : decide (k < 16) = true := decide_eq_true h2
          go_enter Tryd.func26, Tryd.ntmps26
          go_wp2_with fail
          go_ret
          exact ⟨rfl, rfl⟩
        · rw [decide_eq_false (by omega)]
          have dk : decide (k < 4) = false := decide_eq_false h1
          have dk2 : decide (k < 16) = false := decide_eq_false h2
          go_enter Tryd.func26, Tryd.ntmps26
          go_wp2_with fail
          go_ret
          exact ⟨rfl, rfl⟩
    · rw [decide_eq_false (by omega)]
      go_enter Tryd.func26, Tryd.ntmps26
      go_wp2_with fail
      go_ret
      exact ⟨rfl, rfl⟩
theorem before_any (n s : Int) (w : World) (n0 : 0 ≤ n) (n1 : n ≤ 3) (hs : s = 2 ∨ s = 4) : Calls Tryd.prog 30 #[.int .i64 n, .int .i64 s] w fun e w' => e = .returned (.int .i64 ((n + s - 1) % s)) ∧ w' = w := by
  have c : n = 0 ∨ n = 1 ∨ n = 2 ∨ n = 3 := by omega
  clear n0 n1
  rcases hs with rfl | rfl <;> rcases c with rfl | rfl | rfl | rfl
  all_goals
    go_enter Tryd.func30, Tryd.ntmps30
    go_wp2_with fail
    go_ret
    exact ⟨rfl, rfl⟩
theorem blk_any (x y : Int) (w : World) (x0 : 0 ≤ x) (x1 : x ≤ 3) (y0 : 0 ≤ y) (y1 : y ≤ 3) : Calls Tryd.prog 27 #[.int .i64 x, .int .i64 y] w fun e w' => e = .returned (.int .i64 (blockI x y).1) ∧ w' = w := by
  have c : x = 0 ∨ x = 1 ∨ x = 2 ∨ x = 3 := by omega
  have d : y = 0 ∨ y = 1 ∨ y = 2 ∨ y = 3 := by omega
  clear x0 x1 y0 y1
  rcases c with rfl | rfl | rfl | rfl <;> rcases d with rfl | rfl | rfl | rfl
  all_goals
    go_enter Tryd.func27, Tryd.ntmps27
    go_wp2_with fail
    go_ret
    exact ⟨rfl, rfl⟩
theorem cases16 {n : Nat} (h : n < 16) : n = 0 ∨ n = 1 ∨ n = 2 ∨ n = 3 ∨ n = 4 ∨ n = 5 ∨ n = 6 ∨ n = 7 ∨ n = 8 ∨ n = 9 ∨ n = 10 ∨ n = 11 ∨ n = 12 ∨ n = 13 ∨ n = 14 ∨ n = 15 := by omega
theorem atI_tab : ∀ n : Nat, n < 16 → atI (n : Int) = ((plL false).getD n 0, (plL true).getD n 0, 0) := by decide
theorem tab_in : ∀ n : Nat, n < 16 → (0 ≤ (plL false).getD n 0 ∧ (plL false).getD n 0 ≤ 3) ∧ 0 ≤ (plL true).getD n 0 ∧ (plL true).getD n 0 ≤ 3 := by decide
set_option maxHeartbeats 1000000 in
theorem at11_any (k : Int) (w : World) (b0 : -9223372036854775808 ≤ k) (b1 : k ≤ 9223372036854775807) (hV : PlV w) : Calls Tryd.prog 9 #[.int .i64 k] w fun e w' => e = .returned (.tuple #[.int .i64 (atI k).1, .int .i64 (atI k).2.1, .int .i64 (atI k).2.2]) ∧ Only [] w w' := by
  have C := hid (isblk_any k 4 w b0 b1 (.inr rfl))
  by_cases h : 0 ≤ k ∧ k ≤ 15
  · rw [decide_eq_true (by omega)] at C
    obtain ⟨n, rfl⟩ := Int.eq_ofNat_of_zero_le h.1
    have hn : n < 16 := by omega
    have V0 : w.cell? ⟨0, n, none⟩ = some (.int .i64 ((plL false).getD n 0)) := hV false n hn
    have V1 : w.cell? ⟨1, n, none⟩ = some (.int .i64 ((plL true).getD n 0)) := hV true n hn
    have E := hid (atI_tab n hn)
    clear hV
    generalize (plL false).getD n 0 = x at *
    generalize (plL true).getD n 0 = y at *
    go_enter Tryd.func9, Tryd.ntmps9
    go_wp2_with fail
    refine C.out.mono ?_
    rintro e w1 ⟨rfl, rfl⟩
    go_wp2_with fail
    go_quiet (fail)
    go_wp2_with fail
    go_ret3
    rw [E.out]
    exact ⟨rfl, (Only.refl [] _).drewN _⟩
  · rw [decide_eq_false (by omega)] at C
    rw [atI_out h]
    clear h hV
    go_enter Tryd.func9, Tryd.ntmps9
    go_wp2_with fail
    refine C.out.mono ?_
    rintro e w1 ⟨rfl, rfl⟩
    go_wp2_with fail
    go_ret3
    exact ⟨rfl, Only.refl [] _⟩
set_option maxHeartbeats 1000000 in
theorem block11_any (x y : Int) (w : World) (x0 : -9223372036854775808 ≤ x) (x1 : x ≤ 9223372036854775807) (y0 : -9223372036854775808 ≤ y) (y1 : y ≤ 9223372036854775807) : Calls Tryd.prog 10 #[.int .i64 x, .int .i64 y] w fun e w' => e = .returned (.tuple #[.int .i64 (blockI x y).1, .int .i64 (blockI x y).2]) ∧ Only [] w w' := by
  by_cases h : (0 ≤ x ∧ x ≤ 3) ∧ 0 ≤ y ∧ y ≤ 3
  · have C := hid (blk_any x y w h.1.1 h.1.2 h.2.1 h.2.2)
    rw [show (blockI x y).2 = 0 from (at_block h).2.2]
    obtain ⟨⟨h0, h1⟩, h2, h3⟩ := h
    have d1 : decide (4 ≤ y) = false := decide_eq_false (by omega)
    go_enter Tryd.func10, Tryd.ntmps10
    go_wp2_with fail
    refine C.out.mono ?_
    rintro e w1 ⟨rfl, rfl⟩
    go_wp2_with fail
    go_ret2
    exact ⟨rfl, Only.refl [] _⟩
  · rw [block_out h]
    have hz : x < 0 ∨ 3 < x ∨ ((0 ≤ x ∧ x ≤ 3) ∧ y < 0) ∨ ((0 ≤ x ∧ x ≤ 3) ∧ 0 ≤ y ∧ 3 < y) := by omega
    clear h
    rcases hz with z0 | z0 | ⟨⟨z0, z1⟩, z2⟩ | ⟨⟨z0, z1⟩, z2, z3⟩
    all_goals
      first
        | have d1 : decide (4 ≤ y) = true := decide_eq_true (by omega)
        | have d1 : decide (4 ≤ y) = false := decide_eq_false (by omega)
        | skip
      go_enter Tryd.func10, Tryd.ntmps10
      go_wp2_with fail
      go_ret2
      exact ⟨rfl, Only.refl [] _⟩
set_option maxHeartbeats 1000000 in
theorem stepl_any (n : Nat) (s : Int) (x y : Int) (w : World) (hs : s = 2 ∨ s = 4) (hn : (n : Int) < s * s) (hx : (plL false).getD n 0 = x) (hy : (plL true).getD n 0 = y) (hV : PlV w) : Calls Tryd.prog 28 #[.int .i64 n, .int .i64 s] w fun e w' => e = .returned (.tuple #[.int .i64 (blockI ((x + s - 1) % s) y).1, .bool (decide (0 < x)), .int .i64 0]) ∧ Only [] w w' := by
  have hn16 : n < 16 := by rcases hs with rfl | rfl <;> omega
  have C := hid (isblk_any n s w (by omega) (by omega) hs)
  rw [decide_eq_true ⟨by omega, hn⟩] at C
  have V0 : w.cell? ⟨0, n, none⟩ = some (.int .i64 ((plL false).getD n 0)) := hV false n hn16
  have V1 : w.cell? ⟨1, n, none⟩ = some (.int .i64 ((plL true).getD n 0)) := hV true n hn16
  obtain ⟨⟨x0, x1⟩, y0, y1⟩ := tab_in n hn16
  rw [hx] at V0 x0 x1
  rw [hy] at V1 y0 y1
  have bx : 0 ≤ (x + s - 1) % s ∧ (x + s - 1) % s ≤ 3 := by rcases hs with rfl | rfl <;> omega
  have B := hid (fun w => before_any x s w x0 x1 hs)
  have K := hid (fun w => blk_any ((x + s - 1) % s) y w bx.1 bx.2 y0 y1)
  have n0 : (0 : Int) ≤ n ∧ (n : Int) ≤ 15 := by omega
  clear hV hn hx hy bx hs
  generalize (x + s - 1) % s = z at *
  generalize (blockI z y).1 = r at *
  go_enter Tryd.func28, Tryd.ntmps28
  go_wp2_with fail
  refine C.out.mono ?_
  rintro e w1 ⟨rfl, rfl⟩
  go_wp2_with fail
  go_quiet (first | (go_at_call 30; exact Calls.quiet_of_same (B.out _)) | (go_at_call 27; exact Calls.quiet_of_same (K.out _)))
  go_wp2_with fail
  go_ret3
  exact ⟨rfl, (Only.refl [] _).drewN _⟩
set_option maxHeartbeats 1000000 in
theorem stepu_any (n : Nat) (s : Int) (x y : Int) (w : World) (hs : s = 2 ∨ s = 4) (hn : (n : Int) < s * s) (hx : (plL false).getD n 0 = x) (hy : (plL true).getD n 0 = y) (hV : PlV w) : Calls Tryd.prog 29 #[.int .i64 n, .int .i64 s] w fun e w' => e = .returned (.tuple #[.int .i64 (blockI x ((y + s - 1) % s)).1, .bool (decide (0 < y)), .int .i64 0]) ∧ Only [] w w' := by
  have hn16 : n < 16 := by rcases hs with rfl | rfl <;> omega
  have C := hid (isblk_any n s w (by omega) (by omega) hs)
  rw [decide_eq_true ⟨by omega, hn⟩] at C
  have V0 : w.cell? ⟨0, n, none⟩ = some (.int .i64 ((plL false).getD n 0)) := hV false n hn16
  have V1 : w.cell? ⟨1, n, none⟩ = some (.int .i64 ((plL true).getD n 0)) := hV true n hn16
  obtain ⟨⟨x0, x1⟩, y0, y1⟩ := tab_in n hn16
  rw [hx] at V0 x0 x1
  rw [hy] at V1 y0 y1
  have bx : 0 ≤ (y + s - 1) % s ∧ (y + s - 1) % s ≤ 3 := by rcases hs with rfl | rfl <;> omega
  have B := hid (fun w => before_any y s w y0 y1 hs)
  have K := hid (fun w => blk_any x ((y + s - 1) % s) w x0 x1 bx.1 bx.2)
  have n0 : (0 : Int) ≤ n ∧ (n : Int) ≤ 15 := by omega
  clear hV hn hx hy bx hs
  generalize (y + s - 1) % s = z at *
  generalize (blockI x z).1 = r at *
  go_enter Tryd.func29, Tryd.ntmps29
  go_wp2_with fail
  refine C.out.mono ?_
  rintro e w1 ⟨rfl, rfl⟩
  go_wp2_with fail
  go_quiet (first | (go_at_call 30; exact Calls.quiet_of_same (B.out _)) | (go_at_call 27; exact Calls.quiet_of_same (K.out _)))
  go_wp2_with fail
  go_ret3
  exact ⟨rfl, (Only.refl [] _).drewN _⟩
set_option maxHeartbeats 1000000 in
theorem stepl_out (k s : Int) (w : World) (b0 : -9223372036854775808 ≤ k) (b1 : k ≤ 9223372036854775807) (hs : s = 2 ∨ s = 4) (h : ¬ (0 ≤ k ∧ k < s * s)) : Calls Tryd.prog 28 #[.int .i64 k, .int .i64 s] w fun e w' => e = .returned (.tuple #[.int .i64 0, .bool false, .int .i64 3]) ∧ Only [] w w' := by
  have C := hid (isblk_any k s w b0 b1 hs)
  rw [decide_eq_false h] at C
  clear h
  go_enter Tryd.func28, Tryd.ntmps28
  go_wp2_with fail
  refine C.out.mono ?_
  rintro e w1 ⟨rfl, rfl⟩
  go_wp2_with fail
  go_ret3
  exact ⟨rfl, Only.refl [] _⟩
set_option maxHeartbeats 1000000 in
theorem stepu_out (k s : Int) (w : World) (b0 : -9223372036854775808 ≤ k) (b1 : k ≤ 9223372036854775807) (hs : s = 2 ∨ s = 4) (h : ¬ (0 ≤ k ∧ k < s * s)) : Calls Tryd.prog 29 #[.int .i64 k, .int .i64 s] w fun e w' => e = .returned (.tuple #[.int .i64 0, .bool false, .int .i64 3]) ∧ Only [] w w' := by
  have C := hid (isblk_any k s w b0 b1 hs)
  rw [decide_eq_false h] at C
  clear h
  go_enter Tryd.func29, Tryd.ntmps29
  go_wp2_with fail
  refine C.out.mono ?_
  rintro e w1 ⟨rfl, rfl⟩
  go_wp2_with fail
  go_ret3
  exact ⟨rfl, Only.refl [] _⟩
theorem left_tab : ∀ n : Nat, n < 16 → leftI (n : Int) = ((blockI (((plL false).getD n 0 + 4 - 1) % 4) ((plL true).getD n 0)).1, decide (0 < (plL false).getD n 0), 0) := by decide
theorem above_tab : ∀ n : Nat, n < 16 → aboveI (n : Int) = ((blockI ((plL false).getD n 0) (((plL true).getD n 0 + 4 - 1) % 4)).1, decide (0 < (plL true).getD n 0), 0) := by decide
theorem chleft_tab : ∀ n : Nat, n < 4 → chLeftI (n : Int) = ((blockI (((plL false).getD n 0 + 2 - 1) % 2) ((plL true).getD n 0)).1, decide (0 < (plL false).getD n 0), 0) := by decide
theorem chabove_tab : ∀ n : Nat, n < 4 → chAboveI (n : Int) = ((blockI ((plL false).getD n 0) (((plL true).getD n 0 + 2 - 1) % 2)).1, decide (0 < (plL true).getD n 0), 0) := by decide
set_option maxHeartbeats 1000000 in
theorem left11_any (k : Int) (w : World) (b0 : -9223372036854775808 ≤ k) (b1 : k ≤ 9223372036854775807) (hV : PlV w) : Calls Tryd.prog 12 #[.int .i64 k] w fun e w' => e = .returned (.tuple #[.int .i64 (leftI k).1, .bool (leftI k).2.1, .int .i64 (leftI k).2.2]) ∧ Only [] w w' := by
  by_cases h : 0 ≤ k ∧ k ≤ 15
  · obtain ⟨n, rfl⟩ := Int.eq_ofNat_of_zero_le h.1
    have C := hid (stepl_any n 4 _ _ w (.inr rfl) (by omega) rfl rfl hV)
    rw [left_tab n (by omega)]
    clear h hV
    generalize (plL false).getD n 0 = x at *
    generalize (plL true).getD n 0 = y at *
    generalize decide (0 < x) = p at *
    generalize decide (0 < y) = q at *
    generalize (blockI _ _).1 = r at *
    go_enter Tryd.func12, Tryd.ntmps12
    go_wp2_with fail
    refine C.out.mono ?_
    rintro e w1 ⟨rfl, hO⟩
    go_wp2_with fail
    go_ret3
    exact ⟨rfl, hO⟩
  · have C := hid (stepl_out k 4 w b0 b1 (.inr rfl) (by omega))
    rw [show leftI k = (0, false, 3) from by unfold leftI; rw [if_neg h]]
    clear h hV
    go_enter Tryd.func12, Tryd.ntmps12
    go_wp2_with fail
    refine C.out.mono ?_
    rintro e w1 ⟨rfl, hO⟩
    go_wp2_with fail
    go_ret3
    exact ⟨rfl, hO⟩
set_option maxHeartbeats 1000000 in
theorem above11_any (k : Int) (w : World) (b0 : -9223372036854775808 ≤ k) (b1 : k ≤ 9223372036854775807) (hV : PlV w) : Calls Tryd.prog 13 #[.int .i64 k] w fun e w' => e = .returned (.tuple #[.int .i64 (aboveI k).1, .bool (aboveI k).2.1, .int .i64 (aboveI k).2.2]) ∧ Only [] w w' := by
  by_cases h : 0 ≤ k ∧ k ≤ 15
  · obtain ⟨n, rfl⟩ := Int.eq_ofNat_of_zero_le h.1
    have C := hid (stepu_any n 4 _ _ w (.inr rfl) (by omega) rfl rfl hV)
    rw [above_tab n (by omega)]
    clear h hV
    generalize (plL false).getD n 0 = x at *
    generalize (plL true).getD n 0 = y at *
    generalize decide (0 < x) = p at *
    generalize decide (0 < y) = q at *
    generalize (blockI _ _).1 = r at *
    go_enter Tryd.func13, Tryd.ntmps13
    go_wp2_with fail
    refine C.out.mono ?_
    rintro e w1 ⟨rfl, hO⟩
    go_wp2_with fail
    go_ret3
    exact ⟨rfl, hO⟩
  · have C := hid (stepu_out k 4 w b0 b1 (.inr rfl) (by omega))
    rw [show aboveI k = (0, false, 3) from by unfold aboveI; rw [if_neg h]]
    clear h hV
    go_enter Tryd.func13, Tryd.ntmps13
    go_wp2_with fail
    refine C.out.mono ?_
    rintro e w1 ⟨rfl, hO⟩
    go_wp2_with fail
    go_ret3
    exact ⟨rfl, hO⟩
set_option maxHeartbeats 1000000 in
theorem chleft11_any (k : Int) (w : World) (b0 : -9223372036854775808 ≤ k) (b1 : k ≤ 9223372036854775807) (hV : PlV w) : Calls Tryd.prog 14 #[.int .i64 k] w fun e w' => e = .returned (.tuple #[.int .i64 (chLeftI k).1, .bool (chLeftI k).2.1, .int .i64 (chLeftI k).2.2]) ∧ Only [] w w' := by
  by_cases h : 0 ≤ k ∧ k ≤ 3
  · obtain ⟨n, rfl⟩ := Int.eq_ofNat_of_zero_le h.1
    have C := hid (stepl_any n 2 _ _ w (.inl rfl) (by omega) rfl rfl hV)
    rw [chleft_tab n (by omega)]
    clear h hV
    generalize (plL false).getD n 0 = x at *
    generalize (plL true).getD n 0 = y at *
    generalize decide (0 < x) = p at *
    generalize decide (0 < y) = q at *
    generalize (blockI _ _).1 = r at *
    go_enter Tryd.func14, Tryd.ntmps14
    go_wp2_with fail
    refine C.out.mono ?_
    rintro e w1 ⟨rfl, hO⟩
    go_wp2_with fail
    go_ret3
    exact ⟨rfl, hO⟩
  · have C := hid (stepl_out k 2 w b0 b1 (.inl rfl) (by omega))
    rw [show chLeftI k = (0, false, 3) from by unfold chLeftI; rw [if_neg h]]
    clear h hV
    go_enter Tryd.func14, Tryd.ntmps14
    go_wp2_with fail
    refine C.out.mono ?_
    rintro e w1 ⟨rfl, hO⟩
    go_wp2_with fail
    go_ret3
    exact ⟨rfl, hO⟩
set_option maxHeartbeats 1000000 in
theorem chabove11_any (k : Int) (w : World) (b0 : -9223372036854775808 ≤ k) (b1 : k ≤ 9223372036854775807) (hV : PlV w) : Calls Tryd.prog 15 #[.int .i64 k] w fun e w' => e = .returned (.tuple #[.int .i64 (chAboveI k).1, .bool (chAboveI k).2.1, .int .i64 (chAboveI k).2.2]) ∧ Only [] w w' := by
  by_cases h : 0 ≤ k ∧ k ≤ 3
  · obtain ⟨n, rfl⟩ := Int.eq_ofNat_of_zero_le h.1
    have C := hid (stepu_any n 2 _ _ w (.inl rfl) (by omega) rfl rfl hV)
    rw [chabove_tab n (by omega)]
    clear h hV
    generalize (plL false).getD n 0 = x at *
    generalize (plL true).getD n 0 = y at *
    generalize decide (0 < x) = p at *
    generalize decide (0 < y) = q at *
    generalize (blockI _ _).1 = r at *
    go_enter Tryd.func15, Tryd.ntmps15
    go_wp2_with fail
    refine C.out.mono ?_
    rintro e w1 ⟨rfl, hO⟩
    go_wp2_with fail
    go_ret3
    exact ⟨rfl, hO⟩
  · have C := hid (stepu_out k 2 w b0 b1 (.inl rfl) (by omega))
    rw [show chAboveI k = (0, false, 3) from by unfold chAboveI; rw [if_neg h]]
    clear h hV
    go_enter Tryd.func15, Tryd.ntmps15
    go_wp2_with fail
    refine C.out.mono ?_
    rintro e w1 ⟨rfl, hO⟩
    go_wp2_with fail
    go_ret3
    exact ⟨rfl, hO⟩
set_option maxHeartbeats 1000000 in
theorem near11_any (a f v : Int) (w : World) (a0 : -9223372036854775808 ≤ a) (a1 : a ≤ 9223372036854775807) (f0 : -9223372036854775808 ≤ f) (f1 : f ≤ 9223372036854775807) (v0 : -9223372036854775808 ≤ v) (v1 : v ≤ 9223372036854775807) : Calls Tryd.prog 16 #[.int .i64 a, .int .i64 f, .int .i64 v] w fun e w' => e = .returned (.tuple #[.int .i64 (nearI a f v).1, .int .i64 (nearI a f v).2.1, .int .i64 (nearI a f v).2.2]) ∧ Only [] w w' := by
  unfold nearI
  by_cases h : (1 ≤ v ∧ v ≤ 128) ∧ (0 ≤ f ∧ f < 8160) ∧ f ≤ a ∧ a < 8160
  · rw [if_pos h]
    obtain ⟨⟨h1, h2⟩, ⟨h3, h4⟩, h5, h6⟩ := h
    have h7 : 0 ≤ a := by omega
    have nz : ¬ v = 0 := by omega
    by_cases c1 : a % v = 0
    · rw [if_neg (fun x => x.1 c1)]
      by_cases c3 : f ≤ a - v
      · rw [if_pos c3]
        go_enter Tryd.func16, Tryd.ntmps16
        go_wp2_with fail
        go_ret3
        exact ⟨rfl, Only.refl _ _⟩
      · rw [if_neg c3]
        go_enter Tryd.func16, Tryd.ntmps16
        go_wp2_with fail
        go_ret3
        exact ⟨rfl, Only.refl _ _⟩
    · by_cases c2 : f ≤ a - 1
      · rw [if_pos ⟨c1, c2⟩]
        by_cases c3 : f ≤ a - v
        · rw [if_pos c3]
          go_enter Tryd.func16, Tryd.ntmps16
          go_wp2_with fail
          go_ret3
          exact ⟨rfl, Only.refl _ _⟩
        · rw [if_neg c3]
          go_enter Tryd.func16, Tryd.ntmps16
          go_wp2_with fail
          go_ret3
          exact ⟨rfl, Only.refl _ _⟩
      · rw [if_neg (fun x => c2 x.2), if_neg (show ¬ f ≤ a - v by omega)]
        go_enter Tryd.func16, Tryd.ntmps16
        go_wp2_with fail
        go_ret3
        exact ⟨rfl, Only.refl _ _⟩
  · rw [if_neg h]
    by_cases h1 : 1 ≤ v
    · by_cases h2 : v ≤ 128
      · by_cases h3 : 0 ≤ f
        · by_cases h4 : f < 8160
          · by_cases h5 : f ≤ a
            · have h6 : ¬ a < 8160 := by omega
              clear h
              go_enter Tryd.func16, Tryd.ntmps16
              go_wp2_with fail
              go_ret3
              exact ⟨rfl, Only.refl _ _⟩
            · clear h
              go_enter Tryd.func16, Tryd.ntmps16
              go_wp2_with fail
              go_ret3
              exact ⟨rfl, Only.refl _ _⟩
          · clear h
            by_cases h5 : f ≤ a
            · have h6 : ¬ a < 8160 := by omega
              go_enter Tryd.func16, Tryd.ntmps16
              go_wp2_with fail
              go_ret3
              exact ⟨rfl, Only.refl _ _⟩
            · go_enter Tryd.func16, Tryd.ntmps16
              go_wp2_with fail
              go_ret3
              exact ⟨rfl, Only.refl _ _⟩
        · clear h
          go_enter Tryd.func16, Tryd.ntmps16
          go_wp2_with fail
          go_ret3
          exact ⟨rfl, Only.refl _ _⟩
      · clear h
        go_enter Tryd.func16, Tryd.ntmps16
        go_wp2_with fail
        go_ret3
        exact ⟨rfl, Only.refl _ _⟩
    · clear h
      go_enter Tryd.func16, Tryd.ntmps16
      go_wp2_with fail
      go_ret3
      exact ⟨rfl, Only.refl _ _⟩
end Go.Proofs.YtnpfjmblgjojcaaDoor
