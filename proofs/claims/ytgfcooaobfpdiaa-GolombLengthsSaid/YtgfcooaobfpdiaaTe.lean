/- Package golomb: Se, Te. -/
import Derived.Test.YtgfcooaobfpdiaaUk
namespace Go.Proofs.Ytgfcooaobfpdiaa
open Go.RowKit
set_option linter.unusedVariables false

/-- The signed number of a code. -/
def seVal (v : Nat) : Int := if v % 2 = 1 then (v : Int) / 2 + 1 else -((v : Int) / 2)

set_option maxHeartbeats 1000000 in
theorem se_any (b : Nat) (s : ByteArray) (pos : Nat) (w : World) (h : Rd w b s pos) :
    Calls Try.prog 16 #[.pointer (some ⟨b, 0, none⟩)] w fun e w' => e = .returned (.tuple #[.int .i64 (seVal (rdUk s pos 0).1), .int .i64 (rdUk s pos 0).2.1]) ∧ Rd w' b s (rdUk s pos 0).2.2 ∧ Only [b] w w' := by
  have C := hid (ue_any b s pos w h)
  have hb := rdUk_lt s pos 0
  generalize rdUk s pos 0 = r at *
  obtain ⟨x, y, z⟩ := r
  have hx : x ≤ 4294967295 := by have : (2 : Nat) ^ (32 + 0) = 4294967296 := by decide
                                 simp only at hb; omega
  unfold seVal
  clear h hb
  by_cases h1 : x % 2 = 1
  · rw [if_pos h1]
    have h1' : ((x : Int) % 2 == 1) = true := by rw [beq_iff_eq]; omega
    clear h1
    go_enter Try.func16, Try.ntmps16
    go_wp2_with fail
    refine C.out.mono ?_
    rintro e w1 ⟨rfl, hR, hO⟩
    go_wp2_with fail
    go_ret2
    exact ⟨rfl, hR, hO⟩
  · rw [if_neg h1]
    have h1' : ((x : Int) % 2 == 1) = false := by rw [beq_eq_false_iff_ne]; omega
    clear h1
    go_enter Try.func16, Try.ntmps16
    go_wp2_with fail
    refine C.out.mono ?_
    rintro e w1 ⟨rfl, hR, hO⟩
    go_wp2_with fail
    go_ret2
    exact ⟨rfl, hR, hO⟩
set_option maxHeartbeats 400000 in
theorem se_nil (w : World) :
    Calls Try.prog 16 #[.pointer none] w fun e w' => e = .returned (.tuple #[.int .i64 0, .int .i64 1]) ∧ w = w' := by
  go_enter Try.func16, Try.ntmps16
  go_wp2_with fail
  refine (ue_nil w).mono ?_
  rintro e w1 ⟨rfl, rfl⟩
  go_wp2_with fail
  go_ret2
  exact ⟨rfl, rfl⟩

/-- What is read of a number from 0 to most. -/
def rdTe (s : ByteArray) (pos most : Nat) : Nat × Int × Nat :=
  if 4294967294 < most then (0, 3, pos) else if most = 0 then (0, 0, pos)
  else if most = 1 then (if (rdU s pos 1).2.1 ≠ 0 then (0, (rdU s pos 1).2.1, pos) else (1 - (rdU s pos 1).1, 0, (rdU s pos 1).2.2))
  else if (rdUk s pos 0).2.1 ≠ 0 then (0, (rdUk s pos 0).2.1, pos) else if most < (rdUk s pos 0).1 then (0, 3, pos) else rdUk s pos 0

theorem rdU_err (s : ByteArray) (pos : Nat) : ((rdU s pos 1).2.1 = 0 ∨ (rdU s pos 1).2.1 = 5) ∧ ((rdU s pos 1).2.1 ≠ 0 → (rdU s pos 1).2.2 = pos) := by
  unfold rdU
  rw [if_neg (by omega)]
  split <;> simp

set_option maxHeartbeats 400000 in
theorem te_range (b most : Nat) (w : World) (h : 4294967294 < most) :
    Calls Try.prog 18 #[.pointer (some ⟨b, 0, none⟩), .int .u64 most] w fun e w' => e = .returned (.tuple #[.int .u64 0, .int .i64 3]) ∧ w = w' := by
  have h1 : 4294967294 < (most : Int) := by omega
  clear h
  generalize (most : Int) = m at *
  go_enter Try.func18, Try.ntmps18
  go_wp2
  go_ret2
  exact ⟨rfl, rfl⟩
set_option maxHeartbeats 400000 in
theorem te_zero (b : Nat) (w : World) :
    Calls Try.prog 18 #[.pointer (some ⟨b, 0, none⟩), .int .u64 0] w fun e w' => e = .returned (.tuple #[.int .u64 0, .int .i64 0]) ∧ w = w' := by
  go_enter Try.func18, Try.ntmps18
  go_wp2
  go_ret2
  exact ⟨rfl, rfl⟩
set_option maxHeartbeats 400000 in
theorem te_one (b : Nat) (s : ByteArray) (pos : Nat) (w : World) (h : Rd w b s pos) :
    Calls Try.prog 18 #[.pointer (some ⟨b, 0, none⟩), .int .u64 1] w fun e w' =>
      e = .returned (.tuple #[.int .u64 (if (rdU s pos 1).2.1 ≠ 0 then (0, (rdU s pos 1).2.1, pos) else (1 - (rdU s pos 1).1, 0, (rdU s pos 1).2.2) : Nat × Int × Nat).1, .int .i64 (if (rdU s pos 1).2.1 ≠ 0 then (0, (rdU s pos 1).2.1, pos) else (1 - (rdU s pos 1).1, 0, (rdU s pos 1).2.2) : Nat × Int × Nat).2.1]) ∧
        Rd w' b s (if (rdU s pos 1).2.1 ≠ 0 then (0, (rdU s pos 1).2.1, pos) else (1 - (rdU s pos 1).1, 0, (rdU s pos 1).2.2) : Nat × Int × Nat).2.2 ∧ Only [b] w w' := by
  have C := hid (bit_any b s pos w h)
  obtain ⟨he, hp⟩ := rdU_err s pos
  have hb := rdU_lt s pos 1
  generalize rdU s pos 1 = r at *
  obtain ⟨x, y, z⟩ := r
  simp only at he hp hb
  have hx : x ≤ 1 := by simp at hb; omega
  clear h hb
  rcases he with rfl | rfl
  · rw [if_neg (by simp)]
    have e1 : ((1 - x : Nat) : Int) = 1 - (x : Int) := by omega
    rw [e1]
    clear e1 hp
    go_enter Try.func18, Try.ntmps18
    go_wp2_with fail
    refine C.out.mono ?_
    rintro e w1 ⟨rfl, hR, hO⟩
    go_wp2_with fail
    go_ret2
    exact ⟨rfl, hR, hO⟩
  · rw [if_pos (by simp)]
    obtain rfl : z = pos := hp (by simp)
    clear hp
    go_enter Try.func18, Try.ntmps18
    go_wp2_with fail
    refine C.out.mono ?_
    rintro e w1 ⟨rfl, hR, hO⟩
    go_wp2_with fail
    go_ret2
    exact ⟨rfl, hR, hO⟩
set_option maxHeartbeats 1000000 in
theorem te_more (b : Nat) (s : ByteArray) (pos most : Nat) (w : World) (h : Rd w b s pos) (h1 : most ≤ 4294967294) (h2 : 2 ≤ most) :
    Calls Try.prog 18 #[.pointer (some ⟨b, 0, none⟩), .int .u64 most] w fun e w' =>
      e = .returned (.tuple #[.int .u64 (if (rdUk s pos 0).2.1 ≠ 0 then (0, (rdUk s pos 0).2.1, pos) else if most < (rdUk s pos 0).1 then (0, 3, pos) else rdUk s pos 0 : Nat × Int × Nat).1, .int .i64 (if (rdUk s pos 0).2.1 ≠ 0 then (0, (rdUk s pos 0).2.1, pos) else if most < (rdUk s pos 0).1 then (0, 3, pos) else rdUk s pos 0 : Nat × Int × Nat).2.1]) ∧
        Rd w' b s (if (rdUk s pos 0).2.1 ≠ 0 then (0, (rdUk s pos 0).2.1, pos) else if most < (rdUk s pos 0).1 then (0, 3, pos) else rdUk s pos 0 : Nat × Int × Nat).2.2 ∧ Only [b] w w' := by
  have H := hid h
  have C := hid (fun b w h => ue_any b s pos w h)
  have hb := rdUk_lt s pos 0
  have he := rdUk_err s pos 0
  generalize rdUk s pos 0 = r at *
  obtain ⟨x, y, z⟩ := r
  simp only at he hb
  have hx : x ≤ 4294967295 := by have : (2 : Nat) ^ (32 + 0) = 4294967296 := by decide
                                 omega
  have m0 : ((most : Int) == 0) = false := by rw [beq_eq_false_iff_ne]; omega
  have m1 : ((most : Int) == 1) = false := by rw [beq_eq_false_iff_ne]; omega
  have hm : (most : Int) ≤ 4294967294 := by omega
  have hbl := h.lt
  clear h hb h1
  have cases3 : y = 0 ∧ x ≤ most ∨ y = 0 ∧ most < x ∨ (x = 0 ∧ z = pos ∧ y = 4) ∨ (x = 0 ∧ z = pos ∧ y = 5) := by
    rcases he with e | ⟨a, b, c⟩
    · omega
    · rcases c with c | c
      · exact .inr (.inr (.inl ⟨a, b, c⟩))
      · exact .inr (.inr (.inr ⟨a, b, c⟩))
  clear he
  rcases cases3 with ⟨rfl, h3⟩ | ⟨rfl, h3⟩ | ⟨rfl, rfl, rfl⟩ | ⟨rfl, rfl, rfl⟩
  · rw [if_neg (by simp), if_neg (by omega)]
    have h3' : (x : Int) ≤ (most : Int) := by omega
    have C1 := hid (fun w h => C.out b w h)
    clear h3
    go_enter Try.func18, Try.ntmps18
    go_wp2_with fail
    refine (copy_any b s pos w H.out).mono ?_
    rintro e w1 ⟨rfl, hc, ho⟩
    have C2 := hid (C.out _ w1 hc)
    clear hc
    go_wp2_with fail
    refine C2.out.mono ?_
    rintro e w2 ⟨rfl, _, hz2⟩
    have O2 := hid (ho.trans2 hz2 (fun x hx => .inr (by rw [List.mem_singleton.1 hx]; exact Nat.le_refl _)))
    have R2 := hid (H.out.only O2.out (by simp))
    clear hz2 ho
    have C3 := hid (C.out b w2 R2.out)
    go_wp2_with fail
    refine C3.out.mono ?_
    rintro e w3 ⟨rfl, hr3, ho3⟩
    go_wp2_with fail
    go_ret2
    exact ⟨rfl, hr3, (O2.out.mono (T := [b]) (by simp)).trans ho3⟩
  · rw [if_neg (by simp), if_pos h3]
    have h3' : (most : Int) < (x : Int) := by omega
    clear h3
    go_enter Try.func18, Try.ntmps18
    go_wp2_with fail
    refine (copy_any b s pos w H.out).mono ?_
    rintro e w1 ⟨rfl, hc, ho⟩
    have C2 := hid (C.out _ w1 hc)
    clear hc
    go_wp2_with fail
    refine C2.out.mono ?_
    rintro e w2 ⟨rfl, _, hz2⟩
    have O2 := hid (ho.trans2 hz2 (fun x hx => .inr (by rw [List.mem_singleton.1 hx]; exact Nat.le_refl _)))
    have R2 := hid (H.out.only O2.out (by simp))
    clear hz2 ho
    go_wp2_with fail
    go_ret2
    exact ⟨rfl, R2.out, O2.out.mono (by simp)⟩
  all_goals
    rw [if_pos (by simp)]
    go_enter Try.func18, Try.ntmps18
    go_wp2_with fail
    refine (copy_any b s _ w H.out).mono ?_
    rintro e w1 ⟨rfl, hc, ho⟩
    have C2 := hid (C.out _ w1 hc)
    clear hc
    go_wp2_with fail
    refine C2.out.mono ?_
    rintro e w2 ⟨rfl, _, hz2⟩
    have O2 := hid (ho.trans2 hz2 (fun x hx => .inr (by rw [List.mem_singleton.1 hx]; exact Nat.le_refl _)))
    have R2 := hid (H.out.only O2.out (by simp))
    clear hz2 ho
    go_wp2_with fail
    go_ret2
    exact ⟨rfl, R2.out, O2.out.mono (by simp)⟩

theorem te_any (b : Nat) (s : ByteArray) (pos most : Nat) (w : World) (h : Rd w b s pos) :
    Calls Try.prog 18 #[.pointer (some ⟨b, 0, none⟩), .int .u64 most] w fun e w' => e = .returned (.tuple #[.int .u64 (rdTe s pos most).1, .int .i64 (rdTe s pos most).2.1]) ∧ Rd w' b s (rdTe s pos most).2.2 ∧ Only [b] w w' := by
  unfold rdTe
  by_cases h1 : 4294967294 < most
  · rw [if_pos h1]
    exact (te_range b most w h1).mono fun e w' ⟨he, hw⟩ => ⟨he, hw ▸ h, hw ▸ Only.refl _ _⟩
  · rw [if_neg h1]
    by_cases h2 : most = 0
    · subst h2
      rw [if_pos rfl]
      exact (te_zero b w).mono fun e w' ⟨he, hw⟩ => ⟨he, hw ▸ h, hw ▸ Only.refl _ _⟩
    · rw [if_neg h2]
      by_cases h3 : most = 1
      · subst h3
        rw [if_pos rfl]
        exact te_one b s pos w h
      · rw [if_neg h3]
        exact te_more b s pos most w h (by omega) (by omega)
set_option maxHeartbeats 400000 in
theorem te_nil (most : Int) (w : World) :
    Calls Try.prog 18 #[.pointer none, .int .u64 most] w fun e w' => e = .returned (.tuple #[.int .u64 0, .int .i64 1]) ∧ w = w' := by
  go_enter Try.func18, Try.ntmps18
  go_wp2
  go_ret2
  exact ⟨rfl, rfl⟩
end Go.Proofs.Ytgfcooaobfpdiaa
