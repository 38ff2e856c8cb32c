/- The statements' own look for forbidden bytes: where there are none it answers true. -/
import Derived.Test.YtghdnefaempigaaDoorREsc
namespace Go.Proofs.YtghdnefaempigaaDoor
open Go.RowKit
set_option linter.unusedVariables false

theorem u8_zeroI (x : UInt8) : x = 0 ↔ (x.toNat : Int) = 0 := by
  rw [← UInt8.toNat_inj]
  show x.toNat = 0 ↔ _
  omega
theorem u8_leI (x : UInt8) (k : Nat) (hk : k < 256) : x ≤ UInt8.ofNat k ↔ (x.toNat : Int) ≤ (k : Int) := by
  rw [UInt8.le_iff_toNat_le, UInt8.toNat_ofNat']
  rw [Nat.mod_eq_of_lt (by omega)]
  omega
theorem at_get (s : ByteArray) (j : Nat) (h : j < s.size) : s.data.toList[j]? = some s[j] := by
  rw [List.getElem?_eq_getElem (by simpa using h)]; rfl
set_option maxHeartbeats 2000000 in
theorem clean_any (s : ByteArray) (w : World) (hs : s.size ≤ 200000) (hn : ∀ i, ¬ Bad s.data.toList i) : Calls Tryd.prog 20 #[.string s] w fun e w' => e = .returned (.bool true) ∧ w' = w := by
  have N := hid hn
  clear hn
  go_enter Tryd.func20, Tryd.ntmps20
  go_wp2_with fail
  go_loopg [3] s.size (fun g i wr => ∃ j : Nat, j + g = s.size ∧ i = .int .i64 j ∧ wr = w)
  case atStart => exact ⟨0, by omega, rfl, rfl⟩
  case round =>
    obtain ⟨j, hj, rfl, rfl⟩ := hrel
    have jb : (j : Int) ≤ 200000 := by omega
    have j0 : (0 : Int) ≤ (j : Int) := by omega
    have J := hid hj
    by_cases hg : j + 2 < s.size
    · have i2 : (j : Int) + 2 < (s.size : Int) := by omega
      have i1 : (j : Int) + 1 < (s.size : Int) := by omega
      have i0 : (j : Int) < (s.size : Int) := by omega
      have n2 : j + 2 < s.size := by omega
      have n1 : j + 1 < s.size := by omega
      have n0 : j < s.size := by omega
      obtain ⟨g, rfl⟩ : ∃ g, gk = g + 1 := ⟨gk - 1, by omega⟩
      clear hj hg
      by_cases a : s[j] = 0
      · have a' := (u8_zeroI _).1 a
        by_cases b : s[j + 1] = 0
        · have b' := (u8_zeroI _).1 b
          have c : ¬ (s[j + 2].toNat : Int) ≤ 2 := by
            intro h
            refine N.out j ⟨by rw [at_get s j n0, a], by rw [at_get s (j + 1) n1, b], s[j + 2], at_get s (j + 2) n2, ?_⟩
            exact (u8_leI _ 2 (by omega)).2 h
          clear a b
          go_wp2_with fail
          go_roundg g
          case measure => omega
          case rel => exact ⟨j + 1, by have := J.out; omega, by go_num, rfl⟩
        · have b' := mt (u8_zeroI _).2 b
          clear a b
          go_wp2_with fail
          go_roundg g
          case measure => omega
          case rel => exact ⟨j + 1, by have := J.out; omega, by go_num, rfl⟩
      · have a' := mt (u8_zeroI _).2 a
        clear a
        go_wp2_with fail
        go_roundg g
        case measure => omega
        case rel => exact ⟨j + 1, by have := J.out; omega, by go_num, rfl⟩
    · have i2 : ¬ (j : Int) + 2 < (s.size : Int) := by omega
      go_wp2_with fail
      go_ret
      exact ⟨rfl, rfl⟩
end Go.Proofs.YtghdnefaempigaaDoor
