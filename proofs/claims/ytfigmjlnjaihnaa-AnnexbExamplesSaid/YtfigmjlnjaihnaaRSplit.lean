/- The reference's Split. -/
import Derived.Test.YtfigmjlnjaihnaaSpM
import Derived.Test.YtfigmjlnjaihnaaSs
namespace Go.Proofs.Ytfigmjlnjaihnaa
open Go.RowKit
set_option linter.unusedVariables false

set_option maxHeartbeats 8000000 in
theorem rsplit_any (s : ByteArray) (w : World) (hs : s.size ≤ 100000000) :
    Calls Try.prog 13 #[.string s] w fun e w' => ∃ sv, e = .returned (.tuple #[sv, .int .i64 (splitR s).2]) ∧ RowS w' sv (splitR s).1 ∧ Only [] w w' ∧ ∀ g, g ∈ ownOf sv → w.heap.size ≤ g := by
  obtain ⟨us, hu⟩ : ∃ us, us = splitR s := ⟨_, rfl⟩
  rw [← hu]
  have U := hid hu
  clear hu
  have nilRow : ∀ w : World, RowS w (.slice none 0 0) [] := fun w => ⟨rfl, .inl ⟨rfl, rfl⟩⟩
  have NR := hid nilRow
  clear nilRow
  by_cases hL : 16777216 < s.size
  · have E := U.out
    rw [splitR_long hL] at E
    subst E
    have i1 : (16777216 : Int) < (s.size : Int) := by omega
    clear hL
    go_enter Try.func13, Try.ntmps13
    go_wp2_with fail
    go_ret2
    exact ⟨_, rfl, NR.out _, Only.refl _ _, by simp [ownOf, Value.ownBlock]⟩
  · have i1 : ¬ (16777216 : Int) < (s.size : Int) := by omega
    have LL := hid hL
    clear hL
    go_enter Try.func13, Try.ntmps13
    go_wp2_with fail
    go_loopg [4, 5] s.size (fun g out t wr => ∃ (i : Nat) (l : List ByteArray), i + g = s.size ∧ t = .int .i64 i ∧ l.length ≤ i ∧ RowS wr out l ∧ At s i l ∧ (∀ g, g ∈ ownOf out → w.heap.size ≤ g) ∧ Only [] w wr)
    case atStart => exact ⟨0, [], by omega, rfl, by simp, NR.out _, At.zero s, by simp [ownOf, Value.ownBlock], Only.refl _ _⟩
    case round =>
      obtain ⟨i, l, hi, rfl, hl, hR, hA, hF, hO⟩ := hrel
      obtain ⟨a, c, rfl, hc⟩ := hR.form
      have R := hid hR
      have A := hid hA
      have F := hid hF
      have O := hid hO
      have I := hid hi
      clear hR hA hF hO
      have ib : (i : Int) ≤ 100000000 := by omega
      have i0 : (0 : Int) ≤ (i : Int) := by omega
      have is : i ≤ s.size := by omega
      go_wp2_with fail
      go_loopg [6] (s.size - i) (fun g t wq => ∃ z : Nat, z + g = s.size ∧ t = .int .i64 z ∧ wq = wr ∧ Zs s i z)
      case atStart => exact ⟨i, by omega, rfl, rfl, Zs.refl s i is⟩
      case round =>
        obtain ⟨z, hz, rfl, rfl, hzs⟩ := hrel
        have zk := hzs.1
        have ZS := hid hzs
        have Z := hid hz
        clear hzs
        have zb : (z : Int) ≤ 100000000 := by omega
        have z0 : (0 : Int) ≤ (z : Int) := by omega
        have lb : (l.length : Int) ≤ 100000000 := by omega
        by_cases hg : gk = 0
        · obtain rfl : z = s.size := by omega
          have j1 : ¬ (s.size : Int) < (s.size : Int) := by omega
          have E := U.out
          rw [splitR_some LL.out l (A.out.ends (pa_end ZS.out))] at E
          clear hz hg zk
          by_cases hm : 4096 < l.length
          · have m1 : (4096 : Int) < (l.length : Int) := by omega
            rw [if_pos hm] at E
            subst E
            clear hm
            go_wp2_with fail
            go_ret2
            exact ⟨_, rfl, NR.out _, O.out, by simp [ownOf, Value.ownBlock]⟩
          · have m1 : ¬ (4096 : Int) < (l.length : Int) := by omega
            rw [if_neg hm] at E
            subst E
            clear hm
            go_wp2_with fail
            go_ret2
            exact ⟨_, rfl, R.out, O.out, F.out⟩
        · have j1 : (z : Int) < (s.size : Int) := by omega
          have zl : z < s.size := by omega
          obtain ⟨h, rfl⟩ : ∃ h, gk = h + 1 := ⟨gk - 1, by omega⟩
          clear hz hg
          by_cases a0 : s[z] = 0
          · have a' := (byte0 _).1 a0
            have NX := hid (Zs.next ZS.out zl a0)
            clear a0
            go_wp2_with fail
            go_roundg h
            case measure => omega
            case rel => exact ⟨z + 1, by have := Z.out; omega, by go_num, rfl, NX.out⟩
          · have a' := mt (byte0 _).2 a0
            have ne : ((z : Int) == (s.size : Int)) = false := by rw [beq_eq_false_iff_ne]; omega
            by_cases h2 : z < i + 2
            · have h2' : (z : Int) < (i : Int) + 2 := by omega
              have E := U.out
              rw [splitR_none LL.out (A.out.none (pa_no ZS.out zl a0 (.inl h2)))] at E
              subst E
              clear h2 a0
              go_wp2_with fail
              go_ret2
              exact ⟨_, rfl, NR.out _, O.out, by simp [ownOf, Value.ownBlock]⟩
            · have h2' : ¬ (z : Int) < (i : Int) + 2 := by omega
              by_cases b1 : s[z] = 1
              · have b1' : (s[z].toNat : Int) = 1 := by rw [b1]; rfl
                have P1 := pa_one ZS.out zl b1 (by omega)
                have EN := rend_any s (z + 1) wr hs zl
                rw [show (((z + 1 : Nat)) : Int) = (z : Int) + 1 from by omega] at EN
                have e1 := endAt_ge s (z + 1)
                have e2 := endAt_le s (z + 1) zl
                obtain ⟨k, hk⟩ : ∃ k, k = endAt s (z + 1) := ⟨_, rfl⟩
                rw [← hk] at P1 EN e1 e2
                have P1 := hid P1
                have EN := hid EN
                have kb : (k : Int) ≤ 100000000 := by omega
                have k1 : (z : Int) + 1 ≤ (k : Int) := by omega
                have k2 : (k : Int) ≤ (s.size : Int) := by omega
                have K1 := hid e1
                have K2 := hid e2
                have H2 := hid h2
                clear hk e1 e2 a0 b1 h2 a'
                go_wp2_with fail
                refine EN.out.mono ?_
                rintro e w' ⟨rfl, rfl⟩
                go_wp2_with fail
                have MY := rmay_any (s.extract (z + 1) k) w' (by have := K2.out; simp; omega)
                by_cases hm : mayB (s.extract (z + 1) k).data.toList = true
                · rw [hm] at MY
                  have P2 := P1.out
                  rw [if_pos hm] at P2
                  have A2 := hid (A.out.next P2)
                  obtain ⟨sv2, w2, hrun, hrow, honly, hown⟩ := append_str w' (.slice a l.length c) l (s.extract (z + 1) k) R.out (by omega)
                  have R2 := hid hrow
                  have O2 := hid (O.out.trans2 honly (fun x hx => .inr (F.out x hx)))
                  have F2 := hid (show ∀ g, g ∈ ownOf sv2 → w.heap.size ≤ g from fun g hg => by
                    rcases hown g hg with e | e
                    · exact F.out g e
                    · exact Nat.le_trans O.out.size e)
                  clear hm P2 hrow honly hown
                  refine MY.mono ?_
                  rintro e w3 ⟨rfl, rfl⟩
                  go_wp2_with (at_builtin; refine Lib.wpList_append_run _ rfl _ _ _ _ rfl _ _ rfl rfl _ _ hrun ?_)
                  go_roundg (s.size - k)
                  case measure => have := I.out; have := K1.out; omega
                  case rel => exact ⟨k, l ++ [s.extract (z + 1) k], by have := K2.out; omega, rfl, by have := K1.out; simp; omega, R2.out, A2.out, F2.out, O2.out⟩
                · have P2 := P1.out
                  rw [if_neg hm] at P2
                  have E := U.out
                  rw [splitR_none LL.out (A.out.none P2)] at E
                  subst E
                  have hm : mayB (s.extract (z + 1) k).data.toList = false := by simpa using hm
                  rw [hm] at MY
                  clear hm P2
                  refine MY.mono ?_
                  rintro e w3 ⟨rfl, rfl⟩
                  go_wp2_with fail
                  go_ret2
                  exact ⟨_, rfl, NR.out _, O.out, by simp [ownOf, Value.ownBlock]⟩
              · have b1' : ¬ (s[z].toNat : Int) = 1 := fun e => b1 (UInt8.toNat_inj.1 (by show s[z].toNat = 1; omega))
                have E := U.out
                rw [splitR_none LL.out (A.out.none (pa_no ZS.out zl a0 (.inr b1)))] at E
                subst E
                clear h2 a0 b1
                go_wp2_with fail
                go_ret2
                exact ⟨_, rfl, NR.out _, O.out, by simp [ownOf, Value.ownBlock]⟩
end Go.Proofs.Ytfigmjlnjaihnaa
