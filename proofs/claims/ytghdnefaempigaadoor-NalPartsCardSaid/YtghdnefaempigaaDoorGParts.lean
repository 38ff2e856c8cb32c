/- NalParts' walk. -/
import Derived.Test.YtghdnefaempigaaDoorKn
import Derived.Test.YtghdnefaempigaaDoorUnit
import Derived.Test.YtghdnefaempigaaDoorDecM
import Derived.ShutString
import Derived.ChangeOld
namespace Go.Proofs.YtghdnefaempigaaDoor
open Go.RowKit
open Go.ChangeMaps (open_string shut_string)
set_option linter.unusedVariables false

theorem append_list (s t : ByteArray) : (s ++ t).data.toList = s.data.toList ++ t.data.toList := by simp
theorem bytesOf_app (l m : List UInt8) : bytesOf l ++ bytesOf m = bytesOf (l ++ m) := by
  unfold bytesOf; apply ByteArray.ext; simp
set_option maxHeartbeats 2000000 in
theorem parts_known (s t : ByteArray) (w : World) (hm : s.size ≤ maxLen) (hn : t.size ≤ maxLen) (h : 500 < s.size ∨ (s.size ≤ 500 ∧ 500 < t.size) ∨ (s.size ≤ 500 ∧ t.size ≤ 500 ∧ ∃ h0 : 0 < s.size, s[s.size - 1]'(by omega) = 0)) :
    Calls Tryd.prog 9 #[.string s, .string t] w fun e w' => e = .returned (.bool true) ∧ Only [] w w' := by
  have hm' : (s.size : Int) ≤ 9223372036854775807 := by unfold maxLen at hm; omega
  have hn' : (t.size : Int) ≤ 9223372036854775807 := by unfold maxLen at hn; omega
  have KN := hid (fun w => known_any w)
  clear hm hn
  rcases h with h | ⟨h, h2⟩ | ⟨h, h2, h0, h3⟩
  · have i1 : (500 : Int) < (s.size : Int) := by omega
    go_enter Tryd.func9, Tryd.ntmps9
    go_wp2_with (go_at_call 11; refine (KN.out _).mono ?_; rintro e w3 ⟨rfl, ho3⟩; have O3 := hid ho3; clear ho3)
    go_ret
    exact ⟨rfl, O3.out⟩
  · have i1 : ¬ (500 : Int) < (s.size : Int) := by omega
    have i2 : (500 : Int) < (t.size : Int) := by omega
    go_enter Tryd.func9, Tryd.ntmps9
    go_wp2_with (go_at_call 11; refine (KN.out _).mono ?_; rintro e w3 ⟨rfl, ho3⟩; have O3 := hid ho3; clear ho3)
    go_ret
    exact ⟨rfl, O3.out⟩
  · have i1 : ¬ (500 : Int) < (s.size : Int) := by omega
    have i2 : ¬ (500 : Int) < (t.size : Int) := by omega
    have i3 : (0 : Int) < (s.size : Int) := by omega
    have i4 : (1 : Int) ≤ (s.size : Int) := by omega
    have i5 : s.size - 1 < s.size := by omega
    have hne := empty_no s h0
    have hz : ((s[s.size - 1]'(by omega)).toNat : Int) = 0 := by rw [h3]; rfl
    go_enter Tryd.func9, Tryd.ntmps9
    go_wp2_with (go_at_call 11; refine (KN.out _).mono ?_; rintro e w3 ⟨rfl, ho3⟩; have O3 := hid ho3; clear ho3)
    go_ret
    exact ⟨rfl, O3.out⟩
set_option maxHeartbeats 2000000 in
theorem parts_yes (s t : ByteArray) (w : World) (h1 : s.size ≤ 500) (h2 : t.size ≤ 500) (h : s.size = 0 ∨ ∃ h0 : 0 < s.size, s[s.size - 1]'(by omega) ≠ 0) :
    Calls Tryd.prog 9 #[.string s, .string t] w fun e w' => e = .returned (.bool true) ∧ Only [] w w' := by
  have i1 : ¬ (500 : Int) < (s.size : Int) := by omega
  have i2 : ¬ (500 : Int) < (t.size : Int) := by omega
  have hp : esc (s.data.toList ++ t.data.toList) = esc s.data.toList ++ esc t.data.toList := by
    refine esc_parts _ _ ?_
    rcases h with h | ⟨h0, h3⟩
    · exact .inl (List.length_eq_zero_iff.1 (by simpa using h))
    · obtain ⟨ys, hys⟩ := List.getLast?_eq_some_iff.1 (last_at s h0)
      exact .inr ⟨ys, _, hys, h3⟩
  have KN := hid (fun w => known_any w)
  have ha : (s ++ t).size = s.size + t.size := by simp
  have C1 := hid (fun w => esc_any (s ++ t) w (by omega))
  have C2 := hid (fun w => esc_any s w (by omega))
  have C3 := hid (fun w => esc_any t w (by omega))
  rw [append_list, hp] at C1
  have hE : bytesOf (esc s.data.toList ++ esc t.data.toList) = bytesOf (esc s.data.toList) ++ bytesOf (esc t.data.toList) := (bytesOf_app _ _).symm
  rw [hE] at C1
  have l1 := (esc_len s.data.toList).2
  have l2 := (esc_len t.data.toList).2
  have l3 : s.data.toList.length = s.size := by simp
  have l4 : t.data.toList.length = t.size := by simp
  have m1 : s.size + t.size ≤ 9223372036854775807 := by omega
  have m2 : (bytesOf (esc s.data.toList)).size + (bytesOf (esc t.data.toList)).size ≤ 9223372036854775807 := by rw [size_bytesOf, size_bytesOf]; omega
  generalize bytesOf (esc s.data.toList) = A at *
  generalize bytesOf (esc t.data.toList) = B at *
  clear hp hE l1 l2 l3 l4 ha
  rcases h with h | ⟨h0, h3⟩
  · obtain rfl : s = ⟨#[]⟩ := by apply ByteArray.ext; exact Array.eq_empty_of_size_eq_zero h
    go_enter Tryd.func9, Tryd.ntmps9
    go_wp2_with fail
    refine (C1.out _).mono ?_
    rintro e w3 ⟨rfl, ho3⟩
    have O3 := hid ho3
    clear ho3
    go_wp2_with fail
    refine (C2.out _).mono ?_
    rintro e w4 ⟨rfl, ho4⟩
    have O4 := hid ho4
    clear ho4
    go_wp2_with fail
    refine (C3.out _).mono ?_
    rintro e w5 ⟨rfl, ho5⟩
    have O5 := hid ho5
    clear ho5
    go_wp2_with (go_at_call 11; refine (KN.out _).mono ?_; rintro e w9 ⟨rfl, ho9⟩; have O9 := hid ho9; clear ho9)
    go_ret
    exact ⟨rfl, ((O3.out.trans O4.out).trans O5.out).trans O9.out⟩
  · have i3 : (0 : Int) < (s.size : Int) := by omega
    have i4 : (1 : Int) ≤ (s.size : Int) := by omega
    have i5 : s.size - 1 < s.size := by omega
    have hne := empty_no s h0
    have hz : ¬ ((s[s.size - 1]'(by omega)).toNat : Int) = 0 := mt (u8_zero _).2 h3
    go_enter Tryd.func9, Tryd.ntmps9
    go_wp2_with fail
    refine (C1.out _).mono ?_
    rintro e w3 ⟨rfl, ho3⟩
    have O3 := hid ho3
    clear ho3
    go_wp2_with fail
    refine (C2.out _).mono ?_
    rintro e w4 ⟨rfl, ho4⟩
    have O4 := hid ho4
    clear ho4
    go_wp2_with fail
    refine (C3.out _).mono ?_
    rintro e w5 ⟨rfl, ho5⟩
    have O5 := hid ho5
    clear ho5
    go_wp2_with (go_at_call 11; refine (KN.out _).mono ?_; rintro e w9 ⟨rfl, ho9⟩; have O9 := hid ho9; clear ho9)
    go_ret
    exact ⟨rfl, ((O3.out.trans O4.out).trans O5.out).trans O9.out⟩
open Go.ChangeShapes Go.WideShapes Go.ChangeAt
theorem nalParts_core {H : Type} {enc : TypeId × Value → H} (W : World) (base : Nat)
    (v0 : Value) (d0 : DataW H) (p0 : List MemPlace) (k0 : Value.okWide Tryd.prog W .any base 9 v0) (h0 : DataW.Trod enc Tryd.prog W 0 (fun _ => true) true 9 v0 d0 p0)
    (v1 : Value) (d1 : DataW H) (p1 : List MemPlace) (k1 : Value.okWide Tryd.prog W .any base 9 v1) (h1 : DataW.Trod enc Tryd.prog W 0 (fun _ => true) true 9 v1 d1 p1) :
    Calls Tryd.prog 9 #[v0, v1] W fun e w' => e = .returned (.bool true) ∧ Below W.heap.size W w' := by
  obtain ⟨s, rfl, rfl, rfl, w0⟩ := open_string Tryd.underlying9 k0 h0
  obtain ⟨t, rfl, rfl, rfl, w1⟩ := open_string Tryd.underlying9 k1 h1
  have fin : Calls Tryd.prog 9 #[.string s, .string t] W fun e w' => e = .returned (.bool true) ∧ Only [] W w' := by
    by_cases a : 500 < s.size
    · exact parts_known s t W w0 w1 (.inl a)
    · by_cases b : 500 < t.size
      · exact parts_known s t W w0 w1 (.inr (.inl ⟨by omega, b⟩))
      · by_cases c : s.size = 0
        · exact parts_yes s t W (by omega) (by omega) (.inl c)
        · by_cases d : s[s.size - 1]'(by omega) = 0
          · exact parts_known s t W w0 w1 (.inr (.inr ⟨by omega, by omega, by omega, d⟩))
          · exact parts_yes s t W (by omega) (by omega) (.inr ⟨by omega, d⟩)
  exact fin.mono fun e w' ⟨he, ho⟩ => ⟨he, ho.below (Nat.le_refl _) (by simp)⟩
end Go.Proofs.YtghdnefaempigaaDoor
