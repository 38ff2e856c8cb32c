/- NalMatches' walk. -/
import Derived.Test.YtghdnefaempigaaDoorKn
import Derived.Test.YtghdnefaempigaaDoorDec
import Derived.Test.YtghdnefaempigaaDoorRDec
import Derived.ProofKit
import Derived.OpenShut
import Derived.ShutString
import Derived.ChangeOld
namespace Go.Proofs.YtghdnefaempigaaDoor
open Go.RowKit
open Go.ChangeMaps (open_string shut_string)
set_option linter.unusedVariables false

set_option maxHeartbeats 2000000 in
theorem matches_walk (s : ByteArray) (w : World) (hm : s.size ≤ maxLen) : Calls Tryd.prog 3 #[.string s] w fun e w' => e = .returned (.bool true) ∧ Only [] w w' := by
  have hm' : (s.size : Int) ≤ 9223372036854775807 := by unfold maxLen at hm; omega
  by_cases h : (2000 : Int) < (s.size : Int)
  · have KN := hid (fun w => known_any w)
    clear hm
    go_enter Tryd.func3, Tryd.ntmps3
    go_wp2_with (go_at_call 11; refine (KN.out _).mono ?_; rintro e w3 ⟨rfl, ho3⟩; have O3 := hid ho3; clear ho3)
    go_ret
    exact ⟨rfl, O3.out⟩
  · have hs : s.size ≤ 2000 := by omega
    have KN := hid (fun w => known_any w)
    have C1 := hid (fun w => esc_any s w (by omega))
    have C2 := hid (fun w => rescape_any s w (by omega))
    have C3 := hid (fun w => un_any s w (by omega))
    have C4 := hid (fun w => runescape_any s w (by omega))
    have C5 := hid (fun w => dec_any s w (by omega))
    have C6 := hid (fun w => rdec_any s w (by omega))
    unfold decV at C5 C6
    generalize (decR s) = D at C5 C6
    generalize unR s.data.toList = U at C3 C4
    generalize bytesOf (esc s.data.toList) = E at C1 C2
    obtain ⟨x, y, t, c⟩ := D
    obtain ⟨u, v⟩ := U
    clear hm
    go_enter Tryd.func3, Tryd.ntmps3
    go_wp2_with (first
      | (go_at_call 12; refine (C3.out _).mono ?_; rintro e w3 ⟨rfl, ho3⟩; have O3 := hid ho3; clear ho3)
      | (go_at_call 13; refine (C4.out _).mono ?_; rintro e w4 ⟨rfl, ho4⟩; have O4 := hid ho4; clear ho4)
      | (go_at_call 14; refine (C5.out _).mono ?_; rintro e w5 ⟨rfl, ho5⟩; have O5 := hid ho5; clear ho5)
      | (go_at_call 15; refine (C6.out _).mono ?_; rintro e w6 ⟨rfl, ho6⟩; have O6 := hid ho6; have u6 := hid ((U3.new _ _ _ _ _).only ho6); clear ho6)
      | (go_at_call 16; refine (C1.out _).mono ?_; rintro e w7 ⟨rfl, ho7⟩; have O7 := hid ho7; have v7 := hid ((U3.new _ _ _ _ _).only ho7); have u7 := hid ((u6.out.alloc _).only ho7); clear ho7 u6)
      | (go_at_call 17; refine (C2.out _).mono ?_; rintro e w8 ⟨rfl, ho8⟩; have O8 := hid ho8; obtain ⟨a0, a1, a2⟩ := u7.out.only ho8; obtain ⟨b0, b1, b2⟩ := v7.out.only ho8; clear ho8 u7 v7)
      | (go_at_call 11; refine (KN.out _).mono ?_; rintro e w9 ⟨rfl, ho9⟩; have O9 := hid ho9; clear ho9))
    go_ret
    exact ⟨rfl, (((((((O3.out.trans O4.out).trans O5.out).alloc _).trans O6.out).alloc _).trans O7.out).trans O8.out).trans O9.out⟩
open Go.ChangeShapes Go.WideShapes Go.ChangeAt
theorem nalMatches_core {H : Type} {enc : TypeId × Value → H} (W : World) (base : Nat)
    (v0 : Value) (d0 : DataW H) (p0 : List MemPlace) (k0 : Value.okWide Tryd.prog W .any base 9 v0) (h0 : DataW.Trod enc Tryd.prog W 0 (fun _ => true) true 9 v0 d0 p0) :
    Calls Tryd.prog 3 #[v0] W fun e w' => e = .returned (.bool true) ∧ Below W.heap.size W w' := by
  obtain ⟨s, rfl, rfl, rfl, w0⟩ := open_string Tryd.underlying9 k0 h0
  exact (matches_walk s W w0).mono fun e w' ⟨he, ho⟩ => ⟨he, ho.below (Nat.le_refl _) (by simp)⟩
end Go.Proofs.YtghdnefaempigaaDoor
