/- U and Bit of a reader of package bits, for any number of bits; a reader that is nil. -/
import Derived.Test.YtdkmeldcpamnnaaDoorRdU
namespace Go.Proofs.YtdkmeldcpamnnaaDoor
open Go.RowKit
set_option linter.unusedVariables false

set_option maxHeartbeats 400000 in
theorem u_range (b : Nat) (n : Int) (w : World) (h : n < 0 ∨ 64 < n) :
    Calls Tryd.prog 42 #[.pointer (some ⟨b, 0, none⟩), .int .i64 n] w fun e w' => e = .returned (.tuple #[.int .u64 0, .int .i64 3]) ∧ w = w' := by
  rcases h with h | h
  · go_enter Tryd.func42, Tryd.ntmps42
    go_wp2
    go_ret2
    exact ⟨rfl, rfl⟩
  · have h' : 0 ≤ n := by omega
    go_enter Tryd.func42, Tryd.ntmps42
    go_wp2
    go_ret2
    exact ⟨rfl, rfl⟩

set_option maxHeartbeats 400000 in
theorem u_short (b : Nat) (s : ByteArray) (pos : Nat) (n : Int) (w : World) (h : Rd w b s pos) (h1 : 0 ≤ n) (h2 : n ≤ 64) (h3 : 8 * (s.size : Int) - pos < n) :
    Calls Tryd.prog 42 #[.pointer (some ⟨b, 0, none⟩), .int .i64 n] w fun e w' => e = .returned (.tuple #[.int .u64 0, .int .i64 5]) ∧ ∃ k, w' = w.drewN k := by
  go_enter Tryd.func42, Tryd.ntmps42
  go_wp2_with (go_at_call 51; refine (left_any b s pos _ h).mono ?_; rintro e w1 ⟨rfl, n1, rfl⟩)
  go_ret2
  exact ⟨rfl, _, rfl⟩

/-- U of a reader, for any n. -/
theorem u_any (b : Nat) (s : ByteArray) (pos : Nat) (n : Int) (w : World) (h : Rd w b s pos) :
    Calls Tryd.prog 42 #[.pointer (some ⟨b, 0, none⟩), .int .i64 n] w fun e w' => e = .returned (.tuple #[.int .u64 (rdU s pos n).1, .int .i64 (rdU s pos n).2.1]) ∧ Rd w' b s (rdU s pos n).2.2 ∧ Only [b] w w' := by
  unfold rdU
  by_cases h1 : n < 0 ∨ 64 < n
  · rw [if_pos h1]
    exact (u_range b n w h1).mono fun e w' ⟨he, hw⟩ => ⟨he, hw ▸ h, hw ▸ Only.refl _ _⟩
  · rw [if_neg h1]
    by_cases h2 : 8 * s.size < pos + n.toNat
    · rw [if_pos h2]
      refine (u_short b s pos n w h (by omega) (by omega) (by omega)).mono fun e w' ⟨he, k, hw⟩ => ⟨he, hw ▸ h.drewN k, hw ▸ (Only.refl _ _).drewN k⟩
    · rw [if_neg h2]
      obtain ⟨j, rfl⟩ := Int.eq_ofNat_of_zero_le (show 0 ≤ n by omega)
      exact u_yes b s pos j w h (by omega) (by simp at h2; omega)

set_option maxHeartbeats 400000 in
theorem u_nil (n : Int) (w : World) :
    Calls Tryd.prog 42 #[.pointer none, .int .i64 n] w fun e w' => e = .returned (.tuple #[.int .u64 0, .int .i64 1]) ∧ w = w' := by
  go_enter Tryd.func42, Tryd.ntmps42
  go_wp2
  go_ret2
  exact ⟨rfl, rfl⟩

theorem rdU_lt (s : ByteArray) (pos : Nat) (n : Int) : (rdU s pos n).1 < 2 ^ n.toNat := by
  unfold rdU; split
  · exact Nat.pow_pos (by omega)
  · split
    · exact Nat.pow_pos (by omega)
    · exact valOf_lt _ _ _

set_option maxHeartbeats 400000 in
theorem bit_any (b : Nat) (s : ByteArray) (pos : Nat) (w : World) (h : Rd w b s pos) :
    Calls Tryd.prog 73 #[.pointer (some ⟨b, 0, none⟩)] w fun e w' => e = .returned (.tuple #[.int .u8 (rdU s pos 1).1, .int .i64 (rdU s pos 1).2.1]) ∧ Rd w' b s (rdU s pos 1).2.2 ∧ Only [b] w w' := by
  have C := u_any b s pos 1 w h
  have hb := rdU_lt s pos 1
  generalize rdU s pos 1 = r at *
  obtain ⟨x, y, z⟩ := r
  have hx : x < 2 := hb
  clear hb
  go_enter Tryd.func73, Tryd.ntmps73
  go_wp2_with (go_at_call 42; refine C.mono ?_; rintro e w1 ⟨rfl, hR, hO⟩)
  go_ret2
  exact ⟨rfl, hR, hO⟩

set_option maxHeartbeats 400000 in
theorem bit_nil (w : World) :
    Calls Tryd.prog 73 #[.pointer none] w fun e w' => e = .returned (.tuple #[.int .u8 0, .int .i64 1]) ∧ w = w' := by
  go_enter Tryd.func73, Tryd.ntmps73
  go_wp2_with (go_at_call 42; refine (u_nil 1 _).mono ?_; rintro e w1 ⟨rfl, rfl⟩)
  go_ret2
  exact ⟨rfl, rfl⟩

set_option maxHeartbeats 400000 in
theorem pos_nil (w : World) : Calls Tryd.prog 25 #[.pointer none] w fun e w' => e = .returned (.int .i64 0) ∧ w = w' := by
  go_enter Tryd.func25, Tryd.ntmps25
  go_wp2
  go_ret
  exact ⟨rfl, rfl⟩
set_option maxHeartbeats 400000 in
theorem left_nil (w : World) : Calls Tryd.prog 51 #[.pointer none] w fun e w' => e = .returned (.int .i64 0) ∧ w = w' := by
  go_enter Tryd.func51, Tryd.ntmps51
  go_wp2
  go_ret
  exact ⟨rfl, rfl⟩
set_option maxHeartbeats 400000 in
theorem copy_nil (w : World) : Calls Tryd.prog 54 #[.pointer none] w fun e w' => e = .returned (.pointer none) ∧ w = w' := by
  go_enter Tryd.func54, Tryd.ntmps54
  go_wp2
  go_ret
  exact ⟨rfl, rfl⟩
end Go.Proofs.YtdkmeldcpamnnaaDoor
