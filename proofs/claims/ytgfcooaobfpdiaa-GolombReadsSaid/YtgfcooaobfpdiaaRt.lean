/- The reference's reader of codes: Se, Te, Uk. -/
import Derived.Test.YtgfcooaobfpdiaaRe
import Derived.Test.YtgfcooaobfpdiaaTe
namespace Go.Proofs.Ytgfcooaobfpdiaa
open Go.RowKit
set_option linter.unusedVariables false

set_option maxHeartbeats 1000000 in
theorem rse_any (b : Nat) (s : ByteArray) (pos : Nat) (w : World) (h : Rd w b s pos) :
    Calls Try.prog 17 #[.pointer (some ⟨b, 0, none⟩)] w fun e w' => e = .returned (.tuple #[.int .i64 (seVal (rdUk s pos 0).1), .int .i64 (rdUk s pos 0).2.1]) ∧ Rd w' b s (rdUk s pos 0).2.2 ∧ Only [b] w w' := by
  have C := hid (rue_any b s pos w h)
  have hb := rdUk_lt s pos 0
  have he := rdUk_err s pos 0
  generalize rdUk s pos 0 = r at *
  obtain ⟨x, y, z⟩ := r
  simp only at hb he
  have hx : x ≤ 4294967295 := by have : (2 : Nat) ^ (32 + 0) = 4294967296 := by decide
                                 omega
  have cases3 : y = 0 ∨ (x = 0 ∧ y = 4) ∨ (x = 0 ∧ y = 5) := by
    rcases he with e | ⟨a, b, c⟩
    · exact .inl e
    · rcases c with c | c
      · exact .inr (.inl ⟨a, c⟩)
      · exact .inr (.inr ⟨a, c⟩)
  clear h hb he
  rcases cases3 with rfl | ⟨rfl, rfl⟩ | ⟨rfl, rfl⟩
  · unfold seVal
    by_cases h1 : x % 2 = 1
    · rw [if_pos h1]
      have h1' : ((x : Int) % 2 == 1) = true := by rw [beq_iff_eq]; omega
      clear h1
      go_enter Try.func17, Try.ntmps17
      go_wp2_with fail
      refine C.out.mono ?_
      rintro e w1 ⟨rfl, hR, hO⟩
      go_wp2_with fail
      go_ret2
      exact ⟨rfl, hR, hO⟩
    · rw [if_neg h1]
      have h1' : ((x : Int) % 2 == 1) = false := by rw [beq_eq_false_iff_ne]; omega
      clear h1
      go_enter Try.func17, Try.ntmps17
      go_wp2_with fail
      refine C.out.mono ?_
      rintro e w1 ⟨rfl, hR, hO⟩
      go_wp2_with fail
      go_ret2
      exact ⟨rfl, hR, hO⟩
  all_goals
    rw [show seVal 0 = 0 from rfl]
    go_enter Try.func17, Try.ntmps17
    go_wp2_with fail
    refine C.out.mono ?_
    rintro e w1 ⟨rfl, hR, hO⟩
    go_wp2_with fail
    go_ret2
    exact ⟨rfl, hR, hO⟩

set_option maxHeartbeats 400000 in
theorem rte_range (b most : Nat) (w : World) (h : 4294967294 < most) :
    Calls Try.prog 19 #[.pointer (some ⟨b, 0, none⟩), .int .u64 most] w fun e w' => e = .returned (.tuple #[.int .u64 0, .int .i64 3]) ∧ w = w' := by
  have h1 : 4294967294 < (most : Int) := by omega
  clear h
  generalize (most : Int) = m at *
  go_enter Try.func19, Try.ntmps19
  go_wp2
  go_ret2
  exact ⟨rfl, rfl⟩
set_option maxHeartbeats 400000 in
theorem rte_zero (b : Nat) (w : World) :
    Calls Try.prog 19 #[.pointer (some ⟨b, 0, none⟩), .int .u64 0] w fun e w' => e = .returned (.tuple #[.int .u64 0, .int .i64 0]) ∧ w = w' := by
  go_enter Try.func19, Try.ntmps19
  go_wp2
  go_ret2
  exact ⟨rfl, rfl⟩
set_option maxHeartbeats 400000 in
theorem rte_one (b : Nat) (s : ByteArray) (pos : Nat) (w : World) (h : Rd w b s pos) :
    Calls Try.prog 19 #[.pointer (some ⟨b, 0, none⟩), .int .u64 1] w fun e w' =>
      e = .returned (.tuple #[.int .u64 (if (rdU s pos 1).2.1 ≠ 0 then (0, (rdU s pos 1).2.1, pos) else (1 - (rdU s pos 1).1, 0, (rdU s pos 1).2.2) : Nat × Int × Nat).1, .int .i64 (if (rdU s pos 1).2.1 ≠ 0 then (0, (rdU s pos 1).2.1, pos) else (1 - (rdU s pos 1).1, 0, (rdU s pos 1).2.2) : Nat × Int × Nat).2.1]) ∧
        Rd w' b s (if (rdU s pos 1).2.1 ≠ 0 then (0, (rdU s pos 1).2.1, pos) else (1 - (rdU s pos 1).1, 0, (rdU s pos 1).2.2) : Nat × Int × Nat).2.2 ∧ Only [b] w w' := by
  have C := hid (rbit_any b s pos w h)
  obtain ⟨he, hp⟩ := rdU_err s pos
  have hb := rdU_lt s pos 1
  generalize rdU s pos 1 = r at *
  obtain ⟨x, y, z⟩ := r
  simp only at he hp hb
  have hx : x ≤ 1 := by simp at hb; omega
  clear h hb
  rcases he with rfl | rfl
  · rw [if_neg (by simp)]
    have e1 : ((1 - x : Nat) : Int) = 1 - (x : Int) := by omega
    rw [e1]
    clear e1 hp
    go_enter Try.func19, Try.ntmps19
    go_wp2_with fail
    refine C.out.mono ?_
    rintro e w1 ⟨rfl, hR, hO⟩
    go_wp2_with fail
    go_ret2
    exact ⟨rfl, hR, hO⟩
  · rw [if_pos (by simp)]
    obtain rfl : z = pos := hp (by simp)
    clear hp
    go_enter Try.func19, Try.ntmps19
    go_wp2_with fail
    refine C.out.mono ?_
    rintro e w1 ⟨rfl, hR, hO⟩
    go_wp2_with fail
    go_ret2
    exact ⟨rfl, hR, hO⟩
set_option maxHeartbeats 1000000 in
theorem rte_more (b : Nat) (s : ByteArray) (pos most : Nat) (w : World) (h : Rd w b s pos) (h1 : most ≤ 4294967294) (h2 : 2 ≤ most) :
    Calls Try.prog 19 #[.pointer (some ⟨b, 0, none⟩), .int .u64 most] w fun e w' =>
      e = .returned (.tuple #[.int .u64 (if (rdUk s pos 0).2.1 ≠ 0 then (0, (rdUk s pos 0).2.1, pos) else if most < (rdUk s pos 0).1 then (0, 3, pos) else rdUk s pos 0 : Nat × Int × Nat).1, .int .i64 (if (rdUk s pos 0).2.1 ≠ 0 then (0, (rdUk s pos 0).2.1, pos) else if most < (rdUk s pos 0).1 then (0, 3, pos) else rdUk s pos 0 : Nat × Int × Nat).2.1]) ∧
        Rd w' b s (if (rdUk s pos 0).2.1 ≠ 0 then (0, (rdUk s pos 0).2.1, pos) else if most < (rdUk s pos 0).1 then (0, 3, pos) else rdUk s pos 0 : Nat × Int × Nat).2.2 ∧ Only [b] w w' := by
  have H := hid h
  have C := hid (rue_any b s pos w h)
  have hb := rdUk_lt s pos 0
  have he := rdUk_err s pos 0
  generalize rdUk s pos 0 = r at *
  obtain ⟨x, y, z⟩ := r
  simp only at he hb
  have hx : x ≤ 4294967295 := by have : (2 : Nat) ^ (32 + 0) = 4294967296 := by decide
                                 omega
  have m0 : ((most : Int) == 0) = false := by rw [beq_eq_false_iff_ne]; omega
  have m1 : ((most : Int) == 1) = false := by rw [beq_eq_false_iff_ne]; omega
  have hm : (most : Int) ≤ 4294967294 := by omega
  have hbl := h.lt
  have hle := h.le
  have hp := h.hp
  clear h hb h1
  have cases3 : y = 0 ∧ x ≤ most ∨ y = 0 ∧ most < x ∨ (x = 0 ∧ z = pos ∧ y = 4) ∨ (x = 0 ∧ z = pos ∧ y = 5) := by
    rcases he with e | ⟨a, b, c⟩
    · omega
    · rcases c with c | c
      · exact .inr (.inr (.inl ⟨a, b, c⟩))
      · exact .inr (.inr (.inr ⟨a, b, c⟩))
  clear he
  rcases cases3 with ⟨rfl, h3⟩ | ⟨rfl, h3⟩ | ⟨rfl, rfl, rfl⟩ | ⟨rfl, rfl, rfl⟩
  · rw [if_neg (by simp), if_neg (by omega)]
    have h3' : (x : Int) ≤ (most : Int) := by omega
    clear h3
    go_enter Try.func19, Try.ntmps19
    go_wp2_with fail
    refine C.out.mono ?_
    rintro e w1 ⟨rfl, hR, hO⟩
    go_wp2_with fail
    go_ret2
    exact ⟨rfl, hR, hO⟩
  · rw [if_neg (by simp), if_pos h3]
    have h3' : (most : Int) < (x : Int) := by omega
    clear h3
    go_enter Try.func19, Try.ntmps19
    go_wp2_with fail
    refine C.out.mono ?_
    rintro e w1 ⟨rfl, hR, hO⟩
    have O1 := hid hO
    have BK := hid (rback_any b s _ pos 3 w1 hR hle)
    clear hR hO
    go_wp2_with fail
    refine BK.out.mono ?_
    rintro e w2 ⟨rfl, hR2, hO2⟩
    go_wp2_with fail
    go_ret2
    exact ⟨rfl, hR2, O1.out.trans hO2⟩
  all_goals
    rw [if_pos (by simp)]
    go_enter Try.func19, Try.ntmps19
    go_wp2_with fail
    refine C.out.mono ?_
    rintro e w1 ⟨rfl, hR, hO⟩
    go_wp2_with fail
    go_ret2
    exact ⟨rfl, hR, hO⟩

theorem rte_any (b : Nat) (s : ByteArray) (pos most : Nat) (w : World) (h : Rd w b s pos) :
    Calls Try.prog 19 #[.pointer (some ⟨b, 0, none⟩), .int .u64 most] w fun e w' => e = .returned (.tuple #[.int .u64 (rdTe s pos most).1, .int .i64 (rdTe s pos most).2.1]) ∧ Rd w' b s (rdTe s pos most).2.2 ∧ Only [b] w w' := by
  unfold rdTe
  by_cases h1 : 4294967294 < most
  · rw [if_pos h1]
    exact (rte_range b most w h1).mono fun e w' ⟨he, hw⟩ => ⟨he, hw ▸ h, hw ▸ Only.refl _ _⟩
  · rw [if_neg h1]
    by_cases h2 : most = 0
    · subst h2
      rw [if_pos rfl]
      exact (rte_zero b w).mono fun e w' ⟨he, hw⟩ => ⟨he, hw ▸ h, hw ▸ Only.refl _ _⟩
    · rw [if_neg h2]
      by_cases h3 : most = 1
      · subst h3
        rw [if_pos rfl]
        exact rte_one b s pos w h
      · rw [if_neg h3]
        exact rte_more b s pos most w h (by omega) (by omega)

theorem rdUk_step (s : ByteArray) (pos k : Nat) : rdUk s pos k = if (rdUk s pos 0).2.1 ≠ 0 then (0, (rdUk s pos 0).2.1, pos) else if 8 * s.size < (rdUk s pos 0).2.2 + k then (0, 5, pos) else ((rdUk s pos 0).1 * 2 ^ k + valOf s (rdUk s pos 0).2.2 k, 0, (rdUk s pos 0).2.2 + k) := by
  by_cases h : (lead s pos 32).2 = 0
  · by_cases h1 : 8 * s.size < pos + (2 * (lead s pos 32).1 + 1 + 0)
    · have e0 : rdUk s pos 0 = (0, 5, pos) := by unfold rdUk; rw [if_neg (by simp [h]), if_pos h1]
      have e1 : rdUk s pos k = (0, 5, pos) := by unfold rdUk; rw [if_neg (by simp [h]), if_pos (by omega)]
      rw [e0, e1]; simp
    · have e0 : rdUk s pos 0 = (valOf s pos (2 * (lead s pos 32).1 + 1) - 1, 0, pos + (2 * (lead s pos 32).1 + 1)) := by
        unfold rdUk; rw [if_neg (by simp [h]), if_neg h1]; simp [valOf]
      rw [e0]
      unfold rdUk
      rw [if_neg (by simp [h])]
      simp only [ne_eq, not_true_eq_false, if_false]
      rw [Nat.add_assoc pos]
  · have e0 : rdUk s pos 0 = (0, (lead s pos 32).2, pos) := by unfold rdUk; rw [if_pos h]
    rw [e0, if_pos h]
    unfold rdUk
    rw [if_pos h]

set_option maxHeartbeats 1000000 in
theorem ruk_yes (b : Nat) (s : ByteArray) (pos k : Nat) (w : World) (h : Rd w b s pos) (hk : k ≤ 8) :
    Calls Try.prog 21 #[.pointer (some ⟨b, 0, none⟩), .int .i64 k] w fun e w' => e = .returned (.tuple #[.int .u64 (rdUk s pos k).1, .int .i64 (rdUk s pos k).2.1]) ∧ Rd w' b s (rdUk s pos k).2.2 ∧ Only [b] w w' := by
  rw [rdUk_step]
  have C := hid (rue_any b s pos w h)
  have hb := rdUk_lt s pos 0
  have he := rdUk_err s pos 0
  generalize rdUk s pos 0 = r at *
  obtain ⟨x, y, z⟩ := r
  simp only at he hb
  have hx : x ≤ 4294967295 := by have : (2 : Nat) ^ (32 + 0) = 4294967296 := by decide
                                 omega
  have hle := h.le
  have hp := h.hp
  have hk' : (k : Int) ≤ 8 := by omega
  clear h hb
  have cases3 : y = 0 ∨ (x = 0 ∧ z = pos ∧ y = 4) ∨ (x = 0 ∧ z = pos ∧ y = 5) := by
    rcases he with e | ⟨a, b, c⟩
    · exact .inl e
    · rcases c with c | c
      · exact .inr (.inl ⟨a, b, c⟩)
      · exact .inr (.inr ⟨a, b, c⟩)
  clear he
  rcases cases3 with rfl | ⟨rfl, rfl, rfl⟩ | ⟨rfl, rfl, rfl⟩
  · rw [if_neg (by simp)]
    have U := hid (fun w h => ru_any b s z k w h)
    by_cases h1 : 8 * s.size < z + k
    · rw [if_pos h1]
      have e : rdU s z k = (0, 5, z) := by unfold rdU; rw [if_neg (by omega), if_pos (by simp; omega)]
      rw [e] at U
      clear e h1 hk
      go_enter Try.func21, Try.ntmps21
      go_wp2_with fail
      refine C.out.mono ?_
      rintro e w1 ⟨rfl, hR, hO⟩
      have O1 := hid hO
      have U1 := hid (U.out w1 hR)
      clear hR hO
      go_wp2_with fail
      refine U1.out.mono ?_
      rintro e w2 ⟨rfl, hR2, hO2⟩
      have O2 := hid (O1.out.trans hO2)
      have BK := hid (rback_any b s _ pos 5 w2 hR2 hle)
      clear hR2 hO2
      go_wp2_with fail
      refine BK.out.mono ?_
      rintro e w3 ⟨rfl, hR3, hO3⟩
      go_wp2_with fail
      go_ret2
      exact ⟨rfl, hR3, O2.out.trans hO3⟩
    · rw [if_neg h1]
      have e : rdU s z k = (valOf s z k, 0, z + k) := by unfold rdU; rw [if_neg (by omega), if_neg (by simp; omega)]; simp
      rw [e] at U
      have hv := valOf_lt s z k
      generalize valOf s z k = v at *
      have p8 : 2 ^ k ≤ 2 ^ 8 := Nat.pow_le_pow_right (by omega) hk
      have p8' : (2 : Nat) ^ 8 = 256 := by decide
      have p64 : (2 : Nat) ^ 64 = 18446744073709551616 := by decide
      have m : x * 2 ^ k ≤ 4294967295 * 256 := Nat.mul_le_mul hx (by omega)
      have hw : IntKind.u64.wrap ((x : Int) * 2 ^ k) = ((x * 2 ^ k : Nat) : Int) := by
        rw [← wrap_nat (x * 2 ^ k) (by omega), Int.natCast_mul, Int.natCast_pow]; rfl
      have i2 : v ≤ 255 := by omega
      have FIN := hid (show IntKind.u64.wrap (IntKind.u64.wrap ((x : Int) * 2 ^ k) + (v : Int)) = ((x * 2 ^ k + v : Nat) : Int) from by
        rw [hw, ← Int.natCast_add]; exact wrap_nat _ (by omega))
      clear e h1 hk hv p8 p8' p64 m hw
      go_enter Try.func21, Try.ntmps21
      go_wp2_with fail
      refine C.out.mono ?_
      rintro e w1 ⟨rfl, hR, hO⟩
      have O1 := hid hO
      have U1 := hid (U.out w1 hR)
      clear hR hO
      go_wp2_with fail
      refine U1.out.mono ?_
      rintro e w2 ⟨rfl, hR2, hO2⟩
      go_wp2_with fail
      go_ret2
      exact ⟨ret_tup FIN.out, hR2, O1.out.trans hO2⟩
  all_goals
    rw [if_pos (by simp)]
    clear hk
    go_enter Try.func21, Try.ntmps21
    go_wp2_with fail
    refine C.out.mono ?_
    rintro e w1 ⟨rfl, hR, hO⟩
    go_wp2_with fail
    go_ret2
    exact ⟨rfl, hR, hO⟩
set_option maxHeartbeats 400000 in
theorem ruk_range (b : Nat) (k : Int) (w : World) (h : k < 0 ∨ 8 < k) :
    Calls Try.prog 21 #[.pointer (some ⟨b, 0, none⟩), .int .i64 k] w fun e w' => e = .returned (.tuple #[.int .u64 0, .int .i64 3]) ∧ w = w' := by
  rcases h with h | h
  · go_enter Try.func21, Try.ntmps21
    go_wp2
    go_ret2
    exact ⟨rfl, rfl⟩
  · have h' : 0 ≤ k := by omega
    go_enter Try.func21, Try.ntmps21
    go_wp2
    go_ret2
    exact ⟨rfl, rfl⟩
theorem ruk_any (b : Nat) (s : ByteArray) (pos : Nat) (k : Int) (w : World) (h : Rd w b s pos) :
    Calls Try.prog 21 #[.pointer (some ⟨b, 0, none⟩), .int .i64 k] w fun e w' => e = .returned (.tuple #[.int .u64 (rdUkI s pos k).1, .int .i64 (rdUkI s pos k).2.1]) ∧ Rd w' b s (rdUkI s pos k).2.2 ∧ Only [b] w w' := by
  unfold rdUkI
  by_cases h1 : k < 0 ∨ 8 < k
  · rw [if_pos h1]
    exact (ruk_range b k w h1).mono fun e w' ⟨he, hw⟩ => ⟨he, hw ▸ h, hw ▸ Only.refl _ _⟩
  · rw [if_neg h1]
    obtain ⟨j, rfl⟩ := Int.eq_ofNat_of_zero_le (show 0 ≤ k by omega)
    exact ruk_yes b s pos j w h (by omega)
end Go.Proofs.Ytgfcooaobfpdiaa
