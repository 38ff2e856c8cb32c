/- NalEncodes' walk. -/
import Derived.Test.YtghdnefaempigaaDoorKn
import Derived.Test.YtghdnefaempigaaDoorREnc
import Derived.Test.YtghdnefaempigaaDoorUnit
import Derived.Test.YtghdnefaempigaaDoorDecM
namespace Go.Proofs.YtghdnefaempigaaDoor
open Go.RowKit
set_option linter.unusedVariables false

set_option maxHeartbeats 2000000 in
theorem encodes_walk (r k : Nat) (s : ByteArray) (w : World) (hr : r ≤ 255) (hk : k ≤ 255) (hm : s.size ≤ maxLen) : Calls Tryd.prog 4 #[.agg #[.int .u8 r, .int .u8 k, .string s]] w fun e w' => e = .returned (.bool true) ∧ Only [] w w' := by
  have hm' : (s.size : Int) ≤ 9223372036854775807 := by unfold maxLen at hm; omega
  have KN := hid (fun w => known_any w)
  by_cases h : (2000 : Int) < (s.size : Int)
  · clear hm
    go_enter Tryd.func4, Tryd.ntmps4
    go_wp2_with (go_at_call 11; refine (KN.out _).mono ?_; rintro e w3 ⟨rfl, ho3⟩; have O3 := hid ho3; clear ho3)
    go_ret
    exact ⟨rfl, ((Only.refl [] w).alloc _).trans O3.out⟩
  · have hs : s.size ≤ 2000 := by omega
    have C1 := hid (fun w => encode_any r k s w hr hk (by omega))
    have C2 := hid (fun w => rencode_any r k s w hr hk (by omega))
    generalize encR r k s.data.toList = U at C1 C2
    obtain ⟨u, v⟩ := U
    clear hm
    go_enter Tryd.func4, Tryd.ntmps4
    go_wp2_with (first
      | (go_at_call 18; refine (C1.out _).mono ?_; rintro e w3 ⟨rfl, ho3⟩; have O3 := hid ho3; obtain ⟨a0, a1, a2⟩ := (U3.new _ _ _ _ _).only ho3; clear ho3)
      | (go_at_call 19; refine (C2.out _).mono ?_; rintro e w4 ⟨rfl, ho4⟩; have O4 := hid ho4; clear ho4)
      | (go_at_call 11; refine (KN.out _).mono ?_; rintro e w9 ⟨rfl, ho9⟩; have O9 := hid ho9; clear ho9))
    go_ret
    exact ⟨rfl, ((((Only.refl [] w).alloc _).trans O3.out).trans O4.out).trans O9.out⟩
open Go.ChangeShapes Go.WideShapes Go.ChangeAt
theorem nalEncodes_core {H : Type} {enc : TypeId × Value → H} (W : World) (base : Nat)
    (v0 : Value) (d0 : DataW H) (p0 : List MemPlace) (k0 : Value.okWide Tryd.prog W .any base 27 v0) (h0 : DataW.Trod enc Tryd.prog W 0 (fun _ => true) true 27 v0 d0 p0) :
    Calls Tryd.prog 4 #[v0] W fun e w' => e = .returned (.bool true) ∧ Below W.heap.size W w' := by
  obtain ⟨x, y, s, rfl, hx, hy, hs⟩ := open_unit k0 h0
  obtain ⟨r, rfl⟩ := Int.eq_ofNat_of_zero_le hx.1
  obtain ⟨k, rfl⟩ := Int.eq_ofNat_of_zero_le hy.1
  exact (encodes_walk r k s W (by omega) (by omega) hs).mono fun e w' ⟨he, ho⟩ => ⟨he, ho.below (Nat.le_refl _) (by simp)⟩
end Go.Proofs.YtghdnefaempigaaDoor
