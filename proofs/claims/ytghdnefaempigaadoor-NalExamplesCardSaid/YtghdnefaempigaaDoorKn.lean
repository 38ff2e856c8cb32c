/- The statements' own check on literals. -/
import Derived.Test.YtghdnefaempigaaDoorEsc
import Derived.Test.YtghdnefaempigaaDoorEnc
namespace Go.Proofs.YtghdnefaempigaaDoor
open Go.RowKit
set_option linter.unusedVariables false

theorem esc_lit (l m : List UInt8) (w : World) (h : esc l = m) (hl : l.length ≤ 100) : Calls Tryd.prog 16 #[.string ⟨l.toArray⟩] w fun e w' => e = .returned (.string ⟨m.toArray⟩) ∧ Only [] w w' := by
  have := esc_any ⟨l.toArray⟩ w (by simp [ByteArray.size]; omega)
  rw [show (⟨l.toArray⟩ : ByteArray).data.toList = l from by simp, h] at this
  exact this
theorem enc_lit (r k : Nat) (l m : List UInt8) (c : Int) (w : World) (h : encR r k l = (⟨m.toArray⟩, c)) (hl : l.length ≤ 100) (hr : r ≤ 255) (hk : k ≤ 255) :
    Calls Tryd.prog 18 #[.agg #[.int .u8 r, .int .u8 k, .string ⟨l.toArray⟩]] w fun e w' => e = .returned (.tuple #[.string ⟨m.toArray⟩, .int .i64 c]) ∧ Only [] w w' := by
  have := encode_any r k ⟨l.toArray⟩ w hr hk (by simp [ByteArray.size]; omega)
  rw [show (⟨l.toArray⟩ : ByteArray).data.toList = l from by simp, h] at this
  exact this
set_option maxHeartbeats 1000000 in
theorem known_any (w : World) : Calls Tryd.prog 11 #[] w fun e w' => e = .returned (.bool true) ∧ Only [] w w' := by
  have C1 := hid (fun w => enc_lit 1 7 [0, 0, 1] [39, 0, 0, 3, 1] 0 w (by decide +kernel) (by decide) (by decide) (by decide))
  have C2 := hid (fun w => esc_lit [0, 0, 0] [0, 0, 3, 0] w (by decide +kernel) (by decide))
  go_enter Tryd.func11, Tryd.ntmps11
  go_wp2_with (first
    | (go_at_call 18; refine (C1.out _).mono ?_; rintro e w3 ⟨rfl, ho3⟩; have O3 := hid ho3; clear ho3)
    | (go_at_call 16; refine (C2.out _).mono ?_; rintro e w4 ⟨rfl, ho4⟩; have O4 := hid ho4; clear ho4))
  go_ret
  exact ⟨rfl, O3.out.trans O4.out⟩
end Go.Proofs.YtghdnefaempigaaDoor
