/- fit: a call with a number that has a code. -/
import Derived.Test.YtgfcooaobfpdiaaKn2
namespace Go.Proofs.Ytgfcooaobfpdiaa
open Go.RowKit
set_option linter.unusedVariables false

/-- The number of a valid call. -/
def fitV (c m k v : Nat) : Nat := if c % 4 = 0 ∨ c % 4 = 1 then v % 4294967295 else if c % 4 = 2 then v % (m + 1) else v % (4294967295 * 2 ^ k)

theorem ret_call {c m m' k k' v v' : Int} (h1 : m = m') (h2 : k = k') (h3 : v = v') :
    Ending.returned (.agg #[.int .u8 c, .int .u64 m, .int .i64 k, .int .u64 v]) = Ending.returned (.agg #[.int .u8 c, .int .u64 m', .int .i64 k', .int .u64 v']) := by rw [h1, h2, h3]

set_option maxRecDepth 100000 in
set_option maxHeartbeats 2000000 in
theorem fit_any (c m : Nat) (k : Int) (v : Nat) (w : World) (hc : c ≤ 255) (hm : m ≤ 18446744073709551615) (hk : -9223372036854775808 ≤ k ∧ k ≤ 9223372036854775807) (hv : v ≤ 18446744073709551615) :
    Calls Try.prog 39 #[.agg #[.int .u8 c, .int .u64 m, .int .i64 k, .int .u64 v]] w fun e w' =>
      e = .returned (.agg #[.int .u8 c, .int .u64 ((m % 4294967295 : Nat) : Int), .int .i64 (k % 9), .int .u64 (fitV c (m % 4294967295) (k % 9).toNat v)]) ∧ Only [] w w' := by
  have hm' : (m : Int) ≤ 18446744073709551615 := by omega
  have hv' : (v : Int) ≤ 18446744073709551615 := by omega
  obtain ⟨k1, k2⟩ := hk
  have hk1 := Int.mul_tdiv_add_tmod k 9
  have hk2 : -8 ≤ k.tmod 9 := by have := Int.lt_tmod_of_pos k (by decide : (0 : Int) < 9); omega
  have hk3 : k.tmod 9 ≤ 8 := by have := Int.tmod_lt_of_pos k (by decide : (0 : Int) < 9); omega
  have hk0 : (k.tmod 9 + 9) % 9 = k % 9 := by omega
  have e1 := hid (show (m : Int) % 4294967295 = ((m % 4294967295 : Nat) : Int) from by omega)
  clear hk1
  by_cases c0 : c % 4 = 0
  · have c0' : ((c : Int) % 4 == 0) = true := by rw [beq_iff_eq]; omega
    rw [show fitV c (m % 4294967295) (k % 9).toNat v = v % 4294967295 from by unfold fitV; rw [if_pos (.inl c0)]]
    have e3 := hid (show (v : Int) % 4294967295 = ((v % 4294967295 : Nat) : Int) from by omega)
    clear c0 hm hv
    go_enter Try.func39, Try.ntmps39
    go_wp2_with fail
    exact bodyPost_ret (v := .agg #[.int .u8 c, .int .u64 ((m : Int) % 4294967295), .int .i64 (k % 9), .int .u64 ((v : Int) % 4294967295)]) (by simp [results, Try.results39, go_sem]) rfl ⟨ret_call e1.out rfl e3.out, ((Only.refl [] w).alloc _).alloc _⟩
  have c0' : ((c : Int) % 4 == 0) = false := by rw [beq_eq_false_iff_ne]; omega
  by_cases c1 : c % 4 = 1
  · have c1' : ((c : Int) % 4 == 1) = true := by rw [beq_iff_eq]; omega
    rw [show fitV c (m % 4294967295) (k % 9).toNat v = v % 4294967295 from by unfold fitV; rw [if_pos (.inr c1)]]
    have e3 := hid (show (v : Int) % 4294967295 = ((v % 4294967295 : Nat) : Int) from by omega)
    clear c0 c1 hm hv
    go_enter Try.func39, Try.ntmps39
    go_wp2_with fail
    exact bodyPost_ret (v := .agg #[.int .u8 c, .int .u64 ((m : Int) % 4294967295), .int .i64 (k % 9), .int .u64 ((v : Int) % 4294967295)]) (by simp [results, Try.results39, go_sem]) rfl ⟨ret_call e1.out rfl e3.out, ((Only.refl [] w).alloc _).alloc _⟩
  have c1' : ((c : Int) % 4 == 1) = false := by rw [beq_eq_false_iff_ne]; omega
  by_cases c2 : c % 4 = 2
  · have c2' : ((c : Int) % 4 == 2) = true := by rw [beq_iff_eq]; omega
    rw [show fitV c (m % 4294967295) (k % 9).toNat v = v % (m % 4294967295 + 1) from by unfold fitV; rw [if_neg (by omega), if_pos c2]]
    have e3 := hid (show (v : Int) % ((m : Int) % 4294967295 + 1) = ((v % (m % 4294967295 + 1) : Nat) : Int) from by rw [Int.natCast_emod, Int.natCast_add, Int.natCast_emod]; rfl)
    have m0 : 0 ≤ (m : Int) % 4294967295 := by omega
    have m1 : (m : Int) % 4294967295 ≤ 4294967294 := by omega
    have m2 : ((m : Int) % 4294967295 + 1 == 0) = false := by rw [beq_eq_false_iff_ne]; omega
    clear c0 c1 c2 hm hv
    go_enter Try.func39, Try.ntmps39
    go_wp2_with fail
    exact bodyPost_ret (v := .agg #[.int .u8 c, .int .u64 ((m : Int) % 4294967295), .int .i64 (k % 9), .int .u64 ((v : Int) % ((m : Int) % 4294967295 + 1))]) (by simp [results, Try.results39, go_sem]) rfl ⟨ret_call e1.out rfl e3.out, ((Only.refl [] w).alloc _).alloc _⟩
  · have c2' : ((c : Int) % 4 == 2) = false := by rw [beq_eq_false_iff_ne]; omega
    rw [show fitV c (m % 4294967295) (k % 9).toNat v = v % (4294967295 * 2 ^ (k % 9).toNat) from by unfold fitV; rw [if_neg (by omega), if_neg c2]]
    obtain ⟨j, hj⟩ : ∃ j : Nat, k % 9 = (j : Int) := ⟨(k % 9).toNat, by omega⟩
    have hj8 : j ≤ 8 := by omega
    have hk9 : (k.tmod 9 + 9) % 9 = (j : Int) := by rw [hk0, hj]
    rw [hj, Int.toNat_natCast]
    have p8 : 2 ^ j ≤ 2 ^ 8 := Nat.pow_le_pow_right (by omega) hj8
    have p8' : (2 : Nat) ^ 8 = 256 := by decide
    have p0 : 0 < 2 ^ j := Nat.pow_pos (by omega)
    have p64 : (2 : Nat) ^ 64 = 18446744073709551616 := by decide
    obtain ⟨Y, hY⟩ : ∃ Y : Nat, Y = 4294967295 * 2 ^ j := ⟨_, rfl⟩
    have hw : IntKind.u64.wrap (4294967295 * (2 : Int) ^ j) = (Y : Int) := by
      rw [hY, ← wrap_nat (4294967295 * 2 ^ j) (by omega), Int.natCast_mul, Int.natCast_pow]; rfl
    rw [← hY]
    have y0 : (0 : Int) < (Y : Int) := by omega
    have y1 : (Y : Int) ≤ 1099511627520 := by omega
    have y2 : ((Y : Int) == 0) = false := by rw [beq_eq_false_iff_ne]; omega
    have e3 := hid (show (v : Int) % (Y : Int) = ((v % Y : Nat) : Int) from by rw [Int.natCast_emod])
    have e4 := hid hj
    clear c0 c1 c2 hm hv hk0 hY p8 p8' p0 p64 hj
    go_enter Try.func39, Try.ntmps39
    go_wp2_with fail
    exact bodyPost_ret (v := .agg #[.int .u8 c, .int .u64 ((m : Int) % 4294967295), .int .i64 (j : Int), .int .u64 ((v : Int) % (Y : Int))]) (by simp [results, Try.results39, go_sem]) rfl ⟨ret_call e1.out rfl e3.out, ((Only.refl [] w).alloc _).alloc _⟩
end Go.Proofs.Ytgfcooaobfpdiaa
