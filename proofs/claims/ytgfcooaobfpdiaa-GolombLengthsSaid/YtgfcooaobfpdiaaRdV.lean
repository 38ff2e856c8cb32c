/- U and Bit of a reader of package bits, for any number of bits; a reader that is nil. -/
import Derived.Test.YtgfcooaobfpdiaaRdU
namespace Go.Proofs.Ytgfcooaobfpdiaa
open Go.RowKit
set_option linter.unusedVariables false

set_option maxHeartbeats 400000 in
theorem u_range (b : Nat) (n : Int) (w : World) (h : n < 0 ∨ 64 < n) :
    Calls Try.prog 54 #[.pointer (some ⟨b, 0, none⟩), .int .i64 n] w fun e w' => e = .returned (.tuple #[.int .u64 0, .int .i64 3]) ∧ w = w' := by
  rcases h with h | h
  · go_enter Try.func54, Try.ntmps54
    go_wp2
    go_ret2
    exact ⟨rfl, rfl⟩
  · have h' : 0 ≤ n := by omega
    go_enter Try.func54, Try.ntmps54
    go_wp2
    go_ret2
    exact ⟨rfl, rfl⟩

set_option maxHeartbeats 400000 in
theorem u_short (b : Nat) (s : ByteArray) (pos : Nat) (n : Int) (w : World) (h : Rd w b s pos) (h1 : 0 ≤ n) (h2 : n ≤ 64) (h3 : 8 * (s.size : Int) - pos < n) :
    Calls Try.prog 54 #[.pointer (some ⟨b, 0, none⟩), .int .i64 n] w fun e w' => e = .returned (.tuple #[.int .u64 0, .int .i64 5]) ∧ ∃ k, w' = w.drewN k := by
  go_enter Try.func54, Try.ntmps54
  go_wp2_with (go_at_call 46; refine (left_any b s pos _ h).mono ?_; rintro e w1 ⟨rfl, n1, rfl⟩)
  go_ret2
  exact ⟨rfl, _, rfl⟩

/-- U of a reader, for any n. -/
theorem u_any (b : Nat) (s : ByteArray) (pos : Nat) (n : Int) (w : World) (h : Rd w b s pos) :
    Calls Try.prog 54 #[.pointer (some ⟨b, 0, none⟩), .int .i64 n] w fun e w' => e = .returned (.tuple #[.int .u64 (rdU s pos n).1, .int .i64 (rdU s pos n).2.1]) ∧ Rd w' b s (rdU s pos n).2.2 ∧ Only [b] w w' := by
  unfold rdU
  by_cases h1 : n < 0 ∨ 64 < n
  · rw [if_pos h1]
    exact (u_range b n w h1).mono fun e w' ⟨he, hw⟩ => ⟨he, hw ▸ h, hw ▸ Only.refl _ _⟩
  · rw [if_neg h1]
    by_cases h2 : 8 * s.size < pos + n.toNat
    · rw [if_pos h2]
      refine (u_short b s pos n w h (by omega) (by omega) (by omega)).mono fun e w' ⟨he, k, hw⟩ => ⟨he, hw ▸ h.drewN k, hw ▸ (Only.refl _ _).drewN k⟩
    · rw [if_neg h2]
      obtain ⟨j, rfl⟩ := Int.eq_ofNat_of_zero_le (show 0 ≤ n by omega)
      exact u_yes b s pos j w h (by omega) (by simp at h2; omega)

set_option maxHeartbeats 400000 in
theorem u_nil (n : Int) (w : World) :
    Calls Try.prog 54 #[.pointer none, .int .i64 n] w fun e w' => e = .returned (.tuple #[.int .u64 0, .int .i64 1]) ∧ w = w' := by
  go_enter Try.func54, Try.ntmps54
  go_wp2
  go_ret2
  exact ⟨rfl, rfl⟩

theorem rdU_lt (s : ByteArray) (pos : Nat) (n : Int) : (rdU s pos n).1 < 2 ^ n.toNat := by
  unfold rdU; split
  · exact Nat.pow_pos (by omega)
  · split
    · exact Nat.pow_pos (by omega)
    · exact valOf_lt _ _ _

set_option maxHeartbeats 400000 in
theorem bit_any (b : Nat) (s : ByteArray) (pos : Nat) (w : World) (h : Rd w b s pos) :
    Calls Try.prog 45 #[.pointer (some ⟨b, 0, none⟩)] w fun e w' => e = .returned (.tuple #[.int .u8 (rdU s pos 1).1, .int .i64 (rdU s pos 1).2.1]) ∧ Rd w' b s (rdU s pos 1).2.2 ∧ Only [b] w w' := by
  have C := u_any b s pos 1 w h
  have hb := rdU_lt s pos 1
  generalize rdU s pos 1 = r at *
  obtain ⟨x, y, z⟩ := r
  have hx : x < 2 := hb
  clear hb
  go_enter Try.func45, Try.ntmps45
  go_wp2_with (go_at_call 54; refine C.mono ?_; rintro e w1 ⟨rfl, hR, hO⟩)
  go_ret2
  exact ⟨rfl, hR, hO⟩

set_option maxHeartbeats 400000 in
theorem bit_nil (w : World) :
    Calls Try.prog 45 #[.pointer none] w fun e w' => e = .returned (.tuple #[.int .u8 0, .int .i64 1]) ∧ w = w' := by
  go_enter Try.func45, Try.ntmps45
  go_wp2_with (go_at_call 54; refine (u_nil 1 _).mono ?_; rintro e w1 ⟨rfl, rfl⟩)
  go_ret2
  exact ⟨rfl, rfl⟩

set_option maxHeartbeats 400000 in
theorem pos_nil (w : World) : Calls Try.prog 22 #[.pointer none] w fun e w' => e = .returned (.int .i64 0) ∧ w = w' := by
  go_enter Try.func22, Try.ntmps22
  go_wp2
  go_ret
  exact ⟨rfl, rfl⟩
set_option maxHeartbeats 400000 in
theorem left_nil (w : World) : Calls Try.prog 46 #[.pointer none] w fun e w' => e = .returned (.int .i64 0) ∧ w = w' := by
  go_enter Try.func46, Try.ntmps46
  go_wp2
  go_ret
  exact ⟨rfl, rfl⟩
set_option maxHeartbeats 400000 in
theorem copy_nil (w : World) : Calls Try.prog 44 #[.pointer none] w fun e w' => e = .returned (.pointer none) ∧ w = w' := by
  go_enter Try.func44, Try.ntmps44
  go_wp2
  go_ret
  exact ⟨rfl, rfl⟩
end Go.Proofs.Ytgfcooaobfpdiaa
