/- NalBack's walk. -/
import Derived.Test.YtghdnefaempigaaDoorKn
import Derived.Test.YtghdnefaempigaaDoorUn
import Derived.Test.YtghdnefaempigaaDoorCl
import Derived.ShutString
import Derived.ChangeOld
import Derived.ProofKit
import Derived.OpenShut
namespace Go.Proofs.YtghdnefaempigaaDoor
open Go.RowKit
open Go.ChangeMaps (open_string shut_string)
set_option linter.unusedVariables false

theorem unesc_esc (l : List UInt8) : unesc (esc l) = some l := (unesc_iff _ _).2 rfl
theorem unR_esc (l : List UInt8) : unR (esc l) = (bytesOf l, 0) := by unfold unR; rw [unesc_esc]
theorem bytes_back (l : List UInt8) : (bytesOf l).data.toList = l := by simp [bytesOf]
set_option maxHeartbeats 2000000 in
theorem back_walk (s : ByteArray) (w : World) (hm : s.size ≤ maxLen) : Calls Tryd.prog 6 #[.string s] w fun e w' => e = .returned (.bool true) ∧ Only [] w w' := by
  have hm' : (s.size : Int) ≤ 9223372036854775807 := by unfold maxLen at hm; omega
  have KN := hid (fun w => known_any w)
  clear hm
  by_cases h : (1000 : Int) < (s.size : Int)
  · go_enter Tryd.func6, Tryd.ntmps6
    go_wp2_with (go_at_call 11; refine (KN.out _).mono ?_; rintro e w3 ⟨rfl, ho3⟩; have O3 := hid ho3; clear ho3)
    go_ret
    exact ⟨rfl, O3.out⟩
  · have hs : s.size ≤ 1000 := by omega
    have el := (esc_len s.data.toList).2
    have sl : s.data.toList.length = s.size := by simp
    have C1 := hid (fun w => esc_any s w (by omega))
    have hA : (bytesOf (esc s.data.toList)).size ≤ 2000 := by rw [size_bytesOf]; omega
    have C2 := hid (fun w => un_any (bytesOf (esc s.data.toList)) w (by omega))
    have C3 := hid (fun w => clean_any (bytesOf (esc s.data.toList)) w (by omega) (by rw [bytes_back]; exact esc_clean _))
    have C4 := hid (fun w => un_any s w (by omega))
    rw [bytes_back, unR_esc, bytesOf_data] at C2
    cases hu : unesc s.data.toList with
    | none =>
      have hU : unR s.data.toList = (⟨#[]⟩, 4) := by unfold unR; rw [hu]
      rw [hU] at C4
      generalize bytesOf (esc s.data.toList) = A at *
      clear el sl hu hU hA
      go_enter Tryd.func6, Tryd.ntmps6
      go_wp2_with fail
      refine (C1.out _).mono ?_
      rintro e w3 ⟨rfl, ho3⟩
      have O3 := hid ho3
      clear ho3
      go_wp2_with fail
      refine (C2.out _).mono ?_
      rintro e w4 ⟨rfl, ho4⟩
      have O4 := hid ho4
      clear ho4
      go_wp2_with fail
      refine (C3.out _).mono ?_
      rintro e w' ⟨rfl, rfl⟩
      go_wp2_with fail
      refine (C4.out _).mono ?_
      rintro e w5 ⟨rfl, ho5⟩
      have O5 := hid ho5
      clear ho5
      go_wp2_with (go_at_call 11; refine (KN.out _).mono ?_; rintro e w9 ⟨rfl, ho9⟩; have O9 := hid ho9; clear ho9)
      go_ret
      exact ⟨rfl, ((O3.out.trans O4.out).trans O5.out).trans O9.out⟩
    | some p =>
      have hp := (unesc_iff _ _).1 hu
      have hU : unR s.data.toList = (bytesOf p, 0) := by unfold unR; rw [hu]
      rw [hU] at C4
      have pl := (esc_len p).1
      rw [hp] at pl
      have C5 := hid (fun w => esc_any (bytesOf p) w (by rw [size_bytesOf]; omega))
      rw [bytes_back, hp, bytesOf_data] at C5
      generalize bytesOf (esc s.data.toList) = A at *
      generalize bytesOf p = B at *
      clear el sl hu hU hA hp pl
      go_enter Tryd.func6, Tryd.ntmps6
      go_wp2_with fail
      refine (C1.out _).mono ?_
      rintro e w3 ⟨rfl, ho3⟩
      have O3 := hid ho3
      clear ho3
      go_wp2_with fail
      refine (C2.out _).mono ?_
      rintro e w4 ⟨rfl, ho4⟩
      have O4 := hid ho4
      clear ho4
      go_wp2_with fail
      refine (C3.out _).mono ?_
      rintro e w' ⟨rfl, rfl⟩
      go_wp2_with fail
      refine (C4.out _).mono ?_
      rintro e w5 ⟨rfl, ho5⟩
      have O5 := hid ho5
      clear ho5
      go_wp2_with fail
      refine (C5.out _).mono ?_
      rintro e w6 ⟨rfl, ho6⟩
      have O6 := hid ho6
      clear ho6
      go_wp2_with (go_at_call 11; refine (KN.out _).mono ?_; rintro e w9 ⟨rfl, ho9⟩; have O9 := hid ho9; clear ho9)
      go_ret
      exact ⟨rfl, (((O3.out.trans O4.out).trans O5.out).trans O6.out).trans O9.out⟩
open Go.ChangeShapes Go.WideShapes Go.ChangeAt
theorem nalBack_core {H : Type} {enc : TypeId × Value → H} (W : World) (base : Nat)
    (v0 : Value) (d0 : DataW H) (p0 : List MemPlace) (k0 : Value.okWide Tryd.prog W .any base 9 v0) (h0 : DataW.Trod enc Tryd.prog W 0 (fun _ => true) true 9 v0 d0 p0) :
    Calls Tryd.prog 6 #[v0] W fun e w' => e = .returned (.bool true) ∧ Below W.heap.size W w' := by
  obtain ⟨s, rfl, rfl, rfl, w0⟩ := open_string Tryd.underlying9 k0 h0
  exact (back_walk s W w0).mono fun e w' ⟨he, ho⟩ => ⟨he, ho.below (Nat.le_refl _) (by simp)⟩
end Go.Proofs.YtghdnefaempigaaDoor
