/- The statements' own may. -/
import Derived.Test.YtfigmjlnjaihnaaRMay
namespace Go.Proofs.Ytfigmjlnjaihnaa
open Go.RowKit
set_option linter.unusedVariables false

set_option maxHeartbeats 2000000 in
theorem lmay_any (s : ByteArray) (w : World) (hs : s.size ≤ 100000000) : Calls Try.prog 21 #[.string s] w fun e w' => e = .returned (.bool (mayB s.data.toList)) ∧ w' = w := by
  obtain ⟨m, hm⟩ : ∃ m, m = mayB s.data.toList := ⟨_, rfl⟩
  rw [← hm]
  have M := hid hm
  clear hm
  by_cases h0 : s.size = 0
  · have E := M.out
    rw [mayB_empty s h0] at E
    subst E
    have hd : s = ⟨#[]⟩ := by
      have : s.data = #[] := Array.size_eq_zero_iff.1 h0
      cases s; simp_all
    subst hd
    clear h0 M
    go_enter Try.func21, Try.ntmps21
    go_wp2_with fail
    go_loopg [3] 1 (fun g i wr => i = .int .i64 0 ∧ wr = w)
    case atStart => exact ⟨rfl, rfl⟩
    case round =>
      obtain ⟨rfl, rfl⟩ := hrel
      go_wp2_with fail
      go_ret
      exact ⟨rfl, rfl⟩
  · have hp : 0 < s.size := by omega
    have HN := hid (nonempty s hp)
    have hq : (0 : Int) < (s.size : Int) := by omega
    have lt1 : s.size - 1 < s.size := by omega
    have hr : 1 ≤ (s.size : Int) ∧ (s.size : Int) - 1 < (s.size : Int) := by omega
    have eL : ((s.size : Int) - 1).toNat = s.size - 1 := by omega
    go_enter Try.func21, Try.ntmps21
    go_wp2_with fail
    go_loopg [3] s.size (fun g i wr => ∃ j : Nat, j + g = s.size ∧ i = .int .i64 j ∧ wr = w ∧ ∀ k, k < j → ¬ Bad s.data.toList k)
    case atStart => exact ⟨0, by omega, rfl, rfl, fun k h => absurd h (by omega)⟩
    case round =>
      obtain ⟨j, hj, rfl, rfl, hn⟩ := hrel
      have jb : (j : Int) ≤ 100000000 := by omega
      have j0 : (0 : Int) ≤ (j : Int) := by omega
      have J := hid hj
      have N := hid hn
      clear hn
      have next : ¬ Bad s.data.toList j → ∀ k, k < j + 1 → ¬ Bad s.data.toList k := fun h k hk => by
        by_cases e : k = j
        · rw [e]; exact h
        · exact N.out k (by omega)
      have NX := hid next
      clear next
      by_cases hg : j + 2 < s.size
      · have i2 : (j : Int) + 2 < (s.size : Int) := by omega
        have i1 : (j : Int) + 1 < (s.size : Int) := by omega
        have i0 : (j : Int) < (s.size : Int) := by omega
        have n2 : j + 2 < s.size := by omega
        have n1 : j + 1 < s.size := by omega
        have n0 : j < s.size := by omega
        obtain ⟨g, rfl⟩ : ∃ g, gk = g + 1 := ⟨gk - 1, by omega⟩
        clear hj hg
        have g0 := getL s j n0
        have g1 := getL s (j + 1) n1
        have g2 := getL s (j + 2) n2
        by_cases a : s[j] = 0
        · have a' := (byte0 _).1 a
          rw [a] at g0
          by_cases b : s[j + 1] = 0
          · have b' := (byte0 _).1 b
            rw [b] at g1
            by_cases c : s[j + 2] ≤ 2
            · have c' : (s[j + 2].toNat : Int) ≤ 2 := (byteLe _ 2 (by omega)).1 c
              have E := M.out
              rw [mayB_bad s j ⟨g0, g1, _, g2, c⟩] at E
              subst E
              clear a b c g0 g1 g2
              go_wp2_with fail
              go_ret
              exact ⟨rfl, rfl⟩
            · have c' : ¬ (s[j + 2].toNat : Int) ≤ 2 := mt (byteLe _ 2 (by omega)).2 c
              have NB := hid (NX.out (fun h => c (by
                obtain ⟨x, hx, hl⟩ := h.2.2
                rw [g2] at hx
                cases hx
                exact hl)))
              clear a b c g0 g1 g2
              go_wp2_with fail
              go_roundg g
              case measure => omega
              case rel => exact ⟨j + 1, by have := J.out; omega, by go_num, rfl, NB.out⟩
          · have b' := mt (byte0 _).2 b
            have NB := hid (NX.out (fun h => b (by
              have hx := h.2.1
              rw [g1] at hx
              exact Option.some.inj hx)))
            clear a b g0 g1 g2
            go_wp2_with fail
            go_roundg g
            case measure => omega
            case rel => exact ⟨j + 1, by have := J.out; omega, by go_num, rfl, NB.out⟩
        · have a' := mt (byte0 _).2 a
          have NB := hid (NX.out (fun h => a (by
            have hx := h.1
            rw [g0] at hx
            exact Option.some.inj hx)))
          clear a g0 g1 g2
          go_wp2_with fail
          go_roundg g
          case measure => omega
          case rel => exact ⟨j + 1, by have := J.out; omega, by go_num, rfl, NB.out⟩
      · have i2 : ¬ (j : Int) + 2 < (s.size : Int) := by omega
        have nb : ∀ k, ¬ Bad s.data.toList k := fun k h => by
          by_cases e : k < j
          · exact N.out k e h
          · obtain ⟨x, hx, _⟩ := h.2.2
            have := (List.getElem?_eq_some_iff.1 hx).1
            have e2 : s.data.toList.length = s.size := by simp
            omega
        have hem : s.toList.isEmpty = false := by rw [List.isEmpty_eq_false_iff, Lib.toList_data]; exact HN.out
        have hne : ¬ s.toList = [] := by rw [Lib.toList_data]; exact HN.out
        have hne2 : (s.toList != []) = true := by rw [bne_iff_ne]; exact hne
        by_cases hz : s[s.size - 1] = 0
        · have hz' := (byte0 _).1 hz
          have E := M.out
          rw [mayB_zero s hp hz] at E
          subst E
          clear hz nb hg
          go_wp2_with fail
          go_ret
          exact ⟨rfl, rfl⟩
        · have hz' := mt (byte0 _).2 hz
          have hz2 : ((s[s.size - 1].toNat : Int) != 0) = true := by rw [bne_iff_ne]; exact hz'
          have E := M.out
          rw [mayB_ok s hp hz nb] at E
          subst E
          clear hz nb hg
          go_wp2_with fail
          go_ret
          exact ⟨rfl, rfl⟩
end Go.Proofs.Ytfigmjlnjaihnaa
