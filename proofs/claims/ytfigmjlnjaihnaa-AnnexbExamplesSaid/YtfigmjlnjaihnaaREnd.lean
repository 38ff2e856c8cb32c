/- The reference's End: where a unit ends. -/
import Derived.Test.YtfigmjlnjaihnaaRMay
namespace Go.Proofs.Ytfigmjlnjaihnaa
open Go.RowKit
set_option linter.unusedVariables false

theorem dropL (s : ByteArray) (j : Nat) (h : j < s.size) : s.data.toList.drop j = s[j] :: s.data.toList.drop (j + 1) := by
  rw [List.drop_eq_getElem_cons (by simpa using h)]; rfl
theorem dropEnd (s : ByteArray) : s.data.toList.drop s.size = [] := List.drop_eq_nil_of_le (by simp)
/-- Where a unit that begins at i ends. -/
def endAt (s : ByteArray) (i : Nat) : Nat := i + (unitOf (s.data.toList.drop i)).length
theorem endAt_stop (s : ByteArray) (k : Nat) (h : k < s.size) (e : stopB (s.data.toList.drop k) = true) : endAt s k = k := by
  unfold endAt
  rw [dropL s k h] at e ⊢
  unfold unitOf
  rw [if_pos e]; rfl
theorem endAt_go (s : ByteArray) (k : Nat) (h : k < s.size) (e : stopB (s.data.toList.drop k) = false) : endAt s k = endAt s (k + 1) := by
  unfold endAt
  rw [dropL s k h] at e ⊢
  rw [unitOf.eq_2, if_neg (by rw [e]; simp), List.length_cons]
  omega
theorem endAt_end (s : ByteArray) : endAt s s.size = s.size := by
  unfold endAt
  rw [dropEnd]; rfl
theorem endAt_le (s : ByteArray) (i : Nat) (h : i ≤ s.size) : endAt s i ≤ s.size := by
  have h1 := congrArg List.length (unit_rest (s.data.toList.drop i))
  rw [List.length_append, List.length_drop] at h1
  have h2 : s.data.toList.length = s.size := by simp
  unfold endAt
  omega
theorem endAt_ge (s : ByteArray) (i : Nat) : i ≤ endAt s i := by unfold endAt; omega
/-- Bytes 0 from k on, up to z. -/
def Zs (s : ByteArray) (k z : Nat) : Prop := k ≤ z ∧ z ≤ s.size ∧ s.data.toList.drop k = zerosL (z - k) ++ s.data.toList.drop z
theorem Zs.refl (s : ByteArray) (k : Nat) (h : k ≤ s.size) : Zs s k k := ⟨by omega, h, by simp [zerosL]⟩
theorem Zs.next {s : ByteArray} {k z : Nat} (h : Zs s k z) (hz : z < s.size) (e : s[z] = 0) : Zs s k (z + 1) := by
  refine ⟨by have := h.1; omega, hz, ?_⟩
  rw [h.2.2, dropL s z hz, e]
  obtain ⟨n, hn⟩ : ∃ n, n = z - k := ⟨_, rfl⟩
  have : z + 1 - k = n + 1 := by have := h.1; omega
  rw [this, ← hn]
  unfold zerosL
  rw [List.replicate_succ', List.append_assoc]
  rfl
theorem stop_all {s : ByteArray} {k : Nat} (h : Zs s k s.size) : stopB (s.data.toList.drop k) = true := by
  rw [h.2.2, dropEnd]
  unfold stopB
  rw [Bool.or_eq_true]
  left
  rw [List.append_nil]
  unfold zerosL
  simp
theorem stop_three {s : ByteArray} {k z : Nat} (h : Zs s k z) (hz : k + 3 ≤ z) : stopB (s.data.toList.drop k) = true := by
  obtain ⟨n, hn⟩ : ∃ n, z - k = n + 3 := ⟨z - k - 3, by omega⟩
  rw [h.2.2, hn]
  unfold stopB
  rw [Bool.or_eq_true]
  right
  simp [zerosL, List.replicate_succ, three]
theorem stop_two {s : ByteArray} {k z : Nat} (h : Zs s k z) (hz : z = k + 2) (hl : z < s.size) (hn : ¬ s[z] = 0) : stopB (s.data.toList.drop k) = decide (s[z] ≤ 2) := by
  have e : z - k = 2 := by omega
  rw [h.2.2, e, dropL s z hl]
  unfold stopB
  simp [zerosL, List.replicate_succ, three, hn]
theorem stop_few {s : ByteArray} {k z : Nat} (h : Zs s k z) (hz : z < k + 2) (hl : z < s.size) (hn : ¬ s[z] = 0) : stopB (s.data.toList.drop k) = false := by
  rw [h.2.2, dropL s z hl]
  have : z - k = 0 ∨ z - k = 1 := by have := h.1; omega
  unfold stopB
  rcases this with e | e
  · rw [e]
    cases s.data.toList.drop (z + 1) with
    | nil => simp [zerosL, three, hn]
    | cons a l => cases l <;> simp [zerosL, three, hn]
  · rw [e]
    cases s.data.toList.drop (z + 1) with
    | nil => simp [zerosL, three, hn]
    | cons a l => simp [zerosL, three, hn]
set_option maxHeartbeats 4000000 in
theorem rend_any (s : ByteArray) (i : Nat) (w : World) (hs : s.size ≤ 100000000) (hi : i ≤ s.size) : Calls Try.prog 26 #[.string s, .int .i64 i] w fun e w' => e = .returned (.int .i64 (endAt s i)) ∧ w' = w := by
  have ib : (i : Int) ≤ 100000000 := by omega
  have i0 : (0 : Int) ≤ (i : Int) := by omega
  obtain ⟨r, hr⟩ : ∃ r, r = endAt s i := ⟨_, rfl⟩
  rw [← hr]
  have R := hid hr
  clear hr
  go_enter Try.func26, Try.ntmps26
  go_wp2_with fail
  go_loopg [5] (s.size - i) (fun g t wr => ∃ k : Nat, k + g = s.size ∧ t = .int .i64 k ∧ wr = w ∧ r = endAt s k)
  case atStart => exact ⟨i, by omega, rfl, rfl, R.out⟩
  case round =>
    obtain ⟨k, hk, rfl, rfl, hr⟩ := hrel
    have K := hid hk
    have RK := hid hr
    clear hr
    have kb : (k : Int) ≤ 100000000 := by omega
    have k0 : (0 : Int) ≤ (k : Int) := by omega
    by_cases hg : gk = 0
    · obtain rfl : k = s.size := by omega
      have i1 : ¬ (s.size : Int) < (s.size : Int) := by omega
      have E := RK.out
      rw [endAt_end] at E
      subst E
      clear hk
      go_wp2_with fail
      go_ret
      exact ⟨rfl, rfl⟩
    · have i1 : (k : Int) < (s.size : Int) := by omega
      have kl : k < s.size := by omega
      have KL := hid kl
      obtain ⟨g, rfl⟩ : ∃ g, gk = g + 1 := ⟨gk - 1, by omega⟩
      clear hk kl hg
      go_wp2_with fail
      go_loopg [6] (s.size - k) (fun g t wq => ∃ z : Nat, z + g = s.size ∧ t = .int .i64 z ∧ wq = wr ∧ Zs s k z)
      case atStart => exact ⟨k, by have := KL.out; omega, rfl, rfl, Zs.refl s k (by have := KL.out; omega)⟩
      case round =>
        obtain ⟨z, hz, rfl, rfl, hzs⟩ := hrel
        have zk := hzs.1
        have ZS := hid hzs
        have Z := hid hz
        clear hzs
        have zb : (z : Int) ≤ 100000000 := by omega
        have z0 : (0 : Int) ≤ (z : Int) := by omega
        by_cases hg : gk = 0
        · obtain rfl : z = s.size := by omega
          have j1 : ¬ (s.size : Int) < (s.size : Int) := by omega
          have E := RK.out
          rw [endAt_stop s k KL.out (stop_all ZS.out)] at E
          subst E
          clear hz hg zk
          go_wp2_with fail
          go_ret
          exact ⟨rfl, rfl⟩
        · have j1 : (z : Int) < (s.size : Int) := by omega
          have zl : z < s.size := by omega
          obtain ⟨h, rfl⟩ : ∃ h, gk = h + 1 := ⟨gk - 1, by omega⟩
          clear hz hg
          by_cases a : s[z] = 0
          · have a' := (byte0 _).1 a
            have NX := hid (Zs.next ZS.out zl a)
            clear a
            go_wp2_with fail
            go_roundg h
            case measure => omega
            case rel => exact ⟨z + 1, by have := Z.out; omega, by go_num, rfl, NX.out⟩
          · have a' := mt (byte0 _).2 a
            have ne : ((z : Int) == (s.size : Int)) = false := by rw [beq_eq_false_iff_ne]; omega
            by_cases c3 : k + 3 ≤ z
            · have c3' : (k : Int) + 3 ≤ (z : Int) := by omega
              have E := RK.out
              rw [endAt_stop s k KL.out (stop_three ZS.out c3)] at E
              subst E
              clear a c3
              go_wp2_with fail
              go_ret
              exact ⟨rfl, rfl⟩
            · have c3' : ¬ (k : Int) + 3 ≤ (z : Int) := by omega
              by_cases c2 : z = k + 2
              · have c2' : ((z : Int) == (k : Int) + 2) = true := by rw [beq_iff_eq]; omega
                have ST := stop_two ZS.out c2 zl a
                by_cases c : s[z] ≤ 2
                · have c' : (s[z].toNat : Int) ≤ 2 := (byteLe _ 2 (by omega)).1 c
                  rw [decide_eq_true c] at ST
                  have E := RK.out
                  rw [endAt_stop s k KL.out ST] at E
                  subst E
                  clear a c3 c2 c ST
                  go_wp2_with fail
                  go_ret
                  exact ⟨rfl, rfl⟩
                · have c' : ¬ (s[z].toNat : Int) ≤ 2 := mt (byteLe _ 2 (by omega)).2 c
                  rw [decide_eq_false c] at ST
                  have E := RK.out
                  rw [endAt_go s k KL.out ST] at E
                  have E := hid E
                  clear a c3 c2 c ST
                  go_wp2_with fail
                  go_roundg g
                  case measure => omega
                  case rel => exact ⟨k + 1, by have := K.out; omega, by go_num, rfl, E.out⟩
              · have c2' : ((z : Int) == (k : Int) + 2) = false := by rw [beq_eq_false_iff_ne]; omega
                have E := RK.out
                rw [endAt_go s k KL.out (stop_few ZS.out (by omega) zl a)] at E
                have E := hid E
                clear a c3 c2
                go_wp2_with fail
                go_roundg g
                case measure => omega
                case rel => exact ⟨k + 1, by have := K.out; omega, by go_num, rfl, E.out⟩
end Go.Proofs.Ytfigmjlnjaihnaa
