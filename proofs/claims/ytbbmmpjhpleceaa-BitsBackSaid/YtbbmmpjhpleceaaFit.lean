/- fit: the number of bits, and the number with as many bits, of a call. -/
import Derived.Test.YtbbmmpjhpleceaaKnown
import Derived.Test.YtbbmmpjhpleceaaCalls
namespace Go.Proofs.Ytbbmmpjhpleceaa
open Go.RowKit
set_option linter.unusedVariables false

def fitN (n : Int) : Nat := ((n.tmod 65 + 65) % 65).toNat
def fitV (n v : Int) : Nat := if fitN n = 64 then v.toNat else v.toNat &&& (2 ^ fitN n - 1)
theorem fitN_le (n : Int) : fitN n ≤ 64 := by unfold fitN; omega
theorem fitV_lt (n v : Int) (h0 : 0 ≤ v) (h1 : v ≤ 18446744073709551615) : fitV n v < 2 ^ fitN n := by
  unfold fitV
  split
  · rename_i h
    rw [h]
    have : (2 : Nat) ^ 64 = 18446744073709551616 := by decide
    omega
  · exact Nat.lt_of_le_of_lt Nat.and_le_right (by have : 0 < 2 ^ fitN n := Nat.pow_pos (by omega); omega)

theorem ret_two {j k : IntKind} {a b x y : Int} (h1 : a = x) (h2 : b = y) : Ending.returned (.tuple #[.int j a, .int k b]) = .returned (.tuple #[.int j x, .int k y]) := by rw [h1, h2]

set_option maxHeartbeats 1000000 in
theorem fit_any (c n v : Int) (w : World) (h0 : 0 ≤ v) (h1 : v ≤ 18446744073709551615) (n0 : -9223372036854775808 ≤ n) (n1 : n ≤ 9223372036854775807) :
    Calls Try.prog 34 #[.agg #[.int .u8 c, .int .i64 n, .int .u64 v]] w fun e w' => e = .returned (.tuple #[.int .i64 (fitN n), .int .u64 (fitV n v)]) ∧ Only [] w w' := by
  have e1 : (n.tmod 65 + 65) % 65 = (fitN n : Int) := by unfold fitN; omega
  have t0 : -65 < n.tmod 65 := by have := Int.tmod_lt_of_pos n (show (0 : Int) < 65 by omega); have h := Int.lt_tmod_of_pos n (show (0 : Int) < 65 by omega); omega
  have t1 : n.tmod 65 < 65 := Int.tmod_lt_of_pos n (by omega)
  go_enter Try.func34, Try.ntmps34
  obtain ⟨x, rfl⟩ := Int.eq_ofNat_of_zero_le h0
  have hle := fitN_le n
  have hx : x ≤ 18446744073709551615 := by omega
  have EV : fitV n (x : Int) = if fitN n = 64 then x else x &&& (2 ^ fitN n - 1) := rfl
  generalize fitV n (x : Int) = y at *
  by_cases h64 : fitN n = 64
  · rw [if_pos h64] at EV
    subst EV
    rw [h64] at e1 ⊢
    have hb : (((n.tmod 65 + 65) % 65) == 64) = true := by rw [e1]; rfl
    go_wp2_with fail
    go_quiet (fail)
    go_wp2_with fail
    go_ret2
    refine ⟨?_, ((Only.refl _ _).alloc _).drewN _⟩
    exact ret_two e1 rfl
  · rw [if_neg h64] at EV
    have EV' := hid EV
    clear EV
    have hb : (((n.tmod 65 + 65) % 65) == 64) = false := by rw [e1, beq_eq_false_iff_ne]; omega
    generalize fitN n = k at *
    have hk : k < 64 := by omega
    have b0 : 0 ≤ (n.tmod 65 + 65) % 65 := by omega
    have b1 : (n.tmod 65 + 65) % 65 ≤ 64 := by omega
    have E1 := hid e1
    clear e1 h64
    go_wp2_with fail
    go_quiet (fail)
    go_wp2_with fail
    go_ret2
    refine ⟨?_, ((Only.refl _ _).alloc _).drewN _⟩
    refine ret_two E1.out ?_
    have e2 : (n.tmod 65 % 65).toNat = k := by have := E1.out; omega
    rw [e2, EV'.out]
    have p0 : 0 < 2 ^ k := Nat.pow_pos (by omega)
    have p1 : 2 ^ k < 2 ^ 64 := Nat.pow_lt_pow_right (by omega) hk
    have h4 : (2 : Nat) ^ 64 = 18446744073709551616 := by decide
    have e3 : (2 : Int) ^ k = ((2 ^ k : Nat) : Int) := by rw [Int.natCast_pow]; rfl
    rw [e3, wrap_nat _ p1, show ((2 ^ k : Nat) : Int) - 1 = ((2 ^ k - 1 : Nat) : Int) from by omega, wrap_nat _ (by omega), u64_and_nat _ _ (by omega) (by omega)]
end Go.Proofs.Ytbbmmpjhpleceaa
