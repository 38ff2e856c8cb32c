/- The reference's May: whether a unit may be in a stream. -/
import Derived.Test.YtfigmjlnjaihnaaAnM
import Derived.Test.YtfigmjlnjaihnaaObj
import Derived.Test.YtfigmjlnjaihnaaBs
import Derived.Deep.LoopGhost
import Derived.Deep.DeepCutAuto
namespace Go.Proofs.Ytfigmjlnjaihnaa
open Go.RowKit
set_option linter.unusedVariables false

theorem byte0 (x : UInt8) : x = 0 ↔ (x.toNat : Int) = 0 := by
  rw [← UInt8.toNat_inj]
  show x.toNat = 0 ↔ _
  omega
theorem byteLe (x : UInt8) (k : Nat) (hk : k < 256) : x ≤ UInt8.ofNat k ↔ (x.toNat : Int) ≤ (k : Int) := by
  rw [UInt8.le_iff_toNat_le, UInt8.toNat_ofNat', Nat.mod_eq_of_lt (by omega)]
  omega
theorem getL (s : ByteArray) (j : Nat) (h : j < s.size) : s.data.toList[j]? = some s[j] := by
  rw [List.getElem?_eq_getElem (by simpa using h)]; rfl
theorem lastL (s : ByteArray) (h : 0 < s.size) : s.data.toList.getLast? = some s[s.size - 1] := by
  rw [List.getLast?_eq_getElem?]
  have e : s.data.toList.length = s.size := by simp
  rw [e]
  exact getL s _ (by omega)
theorem mayB_empty (s : ByteArray) (h : s.size = 0) : mayB s.data.toList = false := by
  have : s.data.toList = [] := List.length_eq_zero_iff.1 (by simpa using h)
  rw [this]; rfl
theorem mayB_zero (s : ByteArray) (h : 0 < s.size) (e : s[s.size - 1] = 0) : mayB s.data.toList = false := by
  cases hm : mayB s.data.toList with
  | false => rfl
  | true => exact absurd (by rw [lastL s h, e]) ((mayB_iff _).1 hm).2.1
theorem mayB_bad (s : ByteArray) (i : Nat) (h : Bad s.data.toList i) : mayB s.data.toList = false := by
  cases hm : mayB s.data.toList with
  | false => rfl
  | true => exact absurd h (((mayB_iff _).1 hm).2.2 i)
theorem nonempty (s : ByteArray) (h : 0 < s.size) : s.data.toList ≠ [] := fun h0 => by
  have h1 := congrArg List.length h0
  have h2 : s.data.toList.length = s.size := by simp
  rw [h2, List.length_nil] at h1
  omega
theorem mayB_ok (s : ByteArray) (h : 0 < s.size) (e : ¬ s[s.size - 1] = 0) (n : ∀ i, ¬ Bad s.data.toList i) : mayB s.data.toList = true :=
  (mayB_iff _).2 ⟨fun h0 => nonempty s h h0, by rw [lastL s h]; simpa using e, n⟩

set_option maxHeartbeats 2000000 in
theorem rmay_any (s : ByteArray) (w : World) (hs : s.size ≤ 100000000) : Calls Try.prog 27 #[.string s] w fun e w' => e = .returned (.bool (mayB s.data.toList)) ∧ w' = w := by
  obtain ⟨m, hm⟩ : ∃ m, m = mayB s.data.toList := ⟨_, rfl⟩
  rw [← hm]
  have M := hid hm
  clear hm
  by_cases h0 : s.size = 0
  · have E := M.out
    rw [mayB_empty s h0] at E
    subst E
    have hd : s = ⟨#[]⟩ := by
      have : s.data = #[] := Array.size_eq_zero_iff.1 h0
      cases s; simp_all
    subst hd
    clear h0 M
    go_enter Try.func27, Try.ntmps27
    go_wp2_with fail
    go_ret
    exact ⟨rfl, rfl⟩
  · have hp : 0 < s.size := by omega
    have hne : ¬ s.toList = [] := by rw [Lib.toList_data]; exact nonempty s hp
    have hem : s.toList.isEmpty = false := by rw [List.isEmpty_eq_false_iff]; exact hne
    have hq : (0 : Int) < (s.size : Int) := by omega
    have lt1 : s.size - 1 < s.size := by omega
    have hr : 1 ≤ (s.size : Int) ∧ (s.size : Int) - 1 < (s.size : Int) := by omega
    have eL : ((s.size : Int) - 1).toNat = s.size - 1 := by omega
    by_cases hz : s[s.size - 1] = 0
    · have E := M.out
      rw [mayB_zero s hp hz] at E
      subst E
      have hz' := (byte0 _).1 hz
      clear hz M
      go_enter Try.func27, Try.ntmps27
      go_wp2_with fail
      go_ret
      exact ⟨rfl, rfl⟩
    · have hz' := mt (byte0 _).2 hz
      have hzb : ((s[s.size - 1].toNat : Int) == 0) = false := by rw [beq_eq_false_iff_ne]; exact hz'
      have HZ := hid hz
      clear hz
      go_enter Try.func27, Try.ntmps27
      go_wp2_with fail
      clear hne hem hzb hz'
      go_loopg [3] s.size (fun g i wr => ∃ j : Nat, j + g = s.size ∧ i = .int .i64 j ∧ wr = w ∧ ∀ k, k < j → ¬ Bad s.data.toList k)
      case atStart => exact ⟨0, by omega, rfl, rfl, fun k h => absurd h (by omega)⟩
      case round =>
        obtain ⟨j, hj, rfl, rfl, hn⟩ := hrel
        have jb : (j : Int) ≤ 100000000 := by omega
        have j0 : (0 : Int) ≤ (j : Int) := by omega
        have J := hid hj
        have N := hid hn
        clear hn
        have next : ¬ Bad s.data.toList j → ∀ k, k < j + 1 → ¬ Bad s.data.toList k := fun h k hk => by
          by_cases e : k = j
          · rw [e]; exact h
          · exact N.out k (by omega)
        have NX := hid next
        clear next
        by_cases hg : j + 2 < s.size
        · have i2 : (j : Int) + 2 < (s.size : Int) := by omega
          have i1 : (j : Int) + 1 < (s.size : Int) := by omega
          have i0 : (j : Int) < (s.size : Int) := by omega
          have n2 : j + 2 < s.size := by omega
          have n1 : j + 1 < s.size := by omega
          have n0 : j < s.size := by omega
          obtain ⟨g, rfl⟩ : ∃ g, gk = g + 1 := ⟨gk - 1, by omega⟩
          clear hj hg
          have g0 := getL s j n0
          have g1 := getL s (j + 1) n1
          have g2 := getL s (j + 2) n2
          by_cases a : s[j] = 0
          · have a' := (byte0 _).1 a
            rw [a] at g0
            by_cases b : s[j + 1] = 0
            · have b' := (byte0 _).1 b
              rw [b] at g1
              by_cases c : s[j + 2] ≤ 2
              · have c' : (s[j + 2].toNat : Int) ≤ 2 := (byteLe _ 2 (by omega)).1 c
                have E := M.out
                rw [mayB_bad s j ⟨g0, g1, _, g2, c⟩] at E
                subst E
                clear a b c g0 g1 g2
                go_wp2_with fail
                go_ret
                exact ⟨rfl, rfl⟩
              · have c' : ¬ (s[j + 2].toNat : Int) ≤ 2 := mt (byteLe _ 2 (by omega)).2 c
                have NB := hid (NX.out (fun h => c (by
                  obtain ⟨x, hx, hl⟩ := h.2.2
                  rw [g2] at hx
                  cases hx
                  exact hl)))
                clear a b c g0 g1 g2
                go_wp2_with fail
                go_roundg g
                case measure => omega
                case rel => exact ⟨j + 1, by have := J.out; omega, by go_num, rfl, NB.out⟩
            · have b' := mt (byte0 _).2 b
              have NB := hid (NX.out (fun h => b (by
                have hx := h.2.1
                rw [g1] at hx
                exact Option.some.inj hx)))
              clear a b g0 g1 g2
              go_wp2_with fail
              go_roundg g
              case measure => omega
              case rel => exact ⟨j + 1, by have := J.out; omega, by go_num, rfl, NB.out⟩
          · have a' := mt (byte0 _).2 a
            have NB := hid (NX.out (fun h => a (by
              have hx := h.1
              rw [g0] at hx
              exact Option.some.inj hx)))
            clear a g0 g1 g2
            go_wp2_with fail
            go_roundg g
            case measure => omega
            case rel => exact ⟨j + 1, by have := J.out; omega, by go_num, rfl, NB.out⟩
        · have i2 : ¬ (j : Int) + 2 < (s.size : Int) := by omega
          have E := M.out
          rw [mayB_ok s hp HZ.out (fun k h => by
            by_cases e : k < j
            · exact N.out k e h
            · obtain ⟨x, hx, _⟩ := h.2.2
              have := (List.getElem?_eq_some_iff.1 hx).1
              have e2 : s.data.toList.length = s.size := by simp
              omega)] at E
          subst E
          go_wp2_with fail
          go_ret
          exact ⟨rfl, rfl⟩
end Go.Proofs.Ytfigmjlnjaihnaa
