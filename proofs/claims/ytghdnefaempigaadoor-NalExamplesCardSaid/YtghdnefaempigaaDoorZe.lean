/- The program's helpers: does a row of bytes 0 end with a pair; how many bytes 0 a string ends with. -/
import Derived.Test.YtghdnefaempigaaDoorSh
import Derived.Test.YtghdnefaempigaaDoorObj
import Derived.Test.YtghdnefaempigaaDoorNalP
import Derived.WalkKit
import Derived.RegionTactic
import Derived.BigQuiet
namespace Go.Proofs.YtghdnefaempigaaDoor
open Go.RowKit
set_option linter.unusedVariables false

set_option maxHeartbeats 1000000 in
theorem pair_any (z : Nat) (w : World) : Calls Tryd.prog 27 #[.int .i64 (z : Int)] w fun e w' => e = .returned (.bool (pairB z)) ∧ w' = w := by
  go_enter Tryd.func27, Tryd.ntmps27
  by_cases h : 0 < z
  · have h' : (0 : Int) < (z : Int) := by omega
    go_wp2
    go_ret
    refine ⟨?_, rfl⟩
    have : pairB z = ((z : Int) % 2 == 0) := by
      unfold pairB
      rw [decide_eq_true h, Bool.true_and, Bool.eq_iff_iff, beq_iff_eq, beq_iff_eq]
      omega
    rw [this]
    simp
  · obtain rfl : z = 0 := by omega
    go_wp2
    go_ret
    exact ⟨rfl, rfl⟩

set_option maxHeartbeats 1000000 in
theorem zeros_any (s : ByteArray) (w : World) (hs : s.size ≤ 140737488351232) : Calls Tryd.prog 24 #[.string s] w fun e w' => e = .returned (.int .i64 (endF 0 s.data.toList : Nat)) ∧ w' = w := by
  have hE := endF_trim s.data.toList
  have hl : (Lib.trimRightB s.data.toList 0).length ≤ s.size := by
    have := trim_le s.data.toList
    simpa using this
  go_enter Tryd.func24, Tryd.ntmps24
  go_wp2_with (go_at_call 31; refine (trim_right s 0 (by decide) _ (by omega)).mono ?_; rintro e w' ⟨rfl, rfl⟩)
  go_ret
  refine ⟨?_, rfl⟩
  rw [hE]
  have h2 : s.data.toList.length = s.size := by simp
  rw [h2]
  rw [Int.ofNat_sub hl]
  simp

def fitB (s : ByteArray) (h : 0 < s.size) : Bool := decide (s[0] ≠ 0) && decide (s[0].toNat ≤ 127) && decide (s[s.size - 1] ≠ 0)
theorem u8_zero (x : UInt8) : x = 0 ↔ (x.toNat : Int) = 0 := by
  rw [← UInt8.toNat_inj]
  show x.toNat = 0 ↔ _
  omega
set_option maxHeartbeats 1000000 in
theorem fit_any (s : ByteArray) (w : World) (h : 0 < s.size) (hs : s.size ≤ 140737488351232) : Calls Tryd.prog 26 #[.string s] w fun e w' => e = .returned (.bool (fitB s h)) ∧ w' = w := by
  go_enter Tryd.func26, Tryd.ntmps26
  unfold fitB
  have hl : s.size - 1 < s.size := by omega
  by_cases h0 : s[0] = 0
  · have h0' := (u8_zero _).1 h0
    go_wp2
    go_ret
    exact ⟨by simp [h0], rfl⟩
  · have h0' := mt (u8_zero _).2 h0
    by_cases h1 : s[0].toNat ≤ 127
    · have h1' : (s[0].toNat : Int) ≤ 127 := by omega
      by_cases h2 : s[s.size - 1] = 0
      · have h2' := (u8_zero _).1 h2
        go_wp2
        go_ret
        exact ⟨by simp [h2], rfl⟩
      · have h2' := mt (u8_zero _).2 h2
        go_wp2
        all_goals (go_ret; exact ⟨by simp [h0, h1, h2]; omega, rfl⟩)
    · have h1' : ¬ (s[0].toNat : Int) ≤ 127 := by omega
      go_wp2
      all_goals (go_ret; exact ⟨by simp <;> omega, rfl⟩)
end Go.Proofs.YtghdnefaempigaaDoor
