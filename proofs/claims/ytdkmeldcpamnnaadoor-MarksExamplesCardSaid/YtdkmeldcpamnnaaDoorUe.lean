/- Package golomb: zeros. -/
import Derived.Test.YtdkmeldcpamnnaaDoorRdV
import Derived.Test.YtdkmeldcpamnnaaDoorUeM
import Derived.Deep.LoopGhost
import Derived.Outline
import Derived.Deep.DeepCutAuto
namespace Go.Proofs.YtdkmeldcpamnnaaDoor
open Go.RowKit
set_option linter.unusedVariables false

/-- The number that zeros answers. -/
def zn (s : ByteArray) (pos : Nat) : Nat := if (lead s pos 32).2 = 0 then (lead s pos 32).1 else 0

set_option maxHeartbeats 1000000 in
theorem zeros_any (b : Nat) (s : ByteArray) (pos : Nat) (w : World) (h : Rd w b s pos) :
    Calls Tryd.prog 72 #[.pointer (some ⟨b, 0, none⟩)] w fun e w' => e = .returned (.tuple #[.int .i64 (zn s pos), .int .i64 (lead s pos 32).2]) ∧ Only [b] w w' := by
  have H := hid h
  have hle := h.le
  clear h
  obtain ⟨L, hL⟩ : ∃ L, L = lead s pos 32 := ⟨_, rfl⟩
  have hz : zn s pos = if L.2 = 0 then L.1 else 0 := by rw [hL]; rfl
  rw [← hL]
  have LL := hid hL
  have ZZ := hid hz
  obtain ⟨z, hzz⟩ : ∃ z, z = zn s pos := ⟨_, rfl⟩
  rw [← hzz]
  have ZN := hid hzz
  obtain ⟨er, her⟩ : ∃ er, er = L.2 := ⟨_, rfl⟩
  rw [← her]
  have ER := hid her
  clear hL hz hzz her
  go_enter Tryd.func72, Tryd.ntmps72
  go_wp2_with fail
  go_step3
  go_wp2_with fail
  go_step3
  go_wp2_with fail
  go_loopg [4] 32 (fun g i wr => ∃ n : Nat, n + g = 32 ∧ i = .int .i64 n ∧ Rd wr b s (pos + n) ∧ Only [b] w wr ∧ L.2 = (lead s (pos + n) g).2 ∧ L.1 = n + (lead s (pos + n) g).1)
  case atStart => exact ⟨0, by omega, rfl, H.out, Only.refl _ _, by rw [LL.out]; rfl, by rw [LL.out, Nat.zero_add]; rfl⟩
  case round =>
    obtain ⟨n, hn, rfl, hR, hO, h1, h2⟩ := hrel
    have R := hid hR
    have O := hid hO
    have H1 := hid h1
    have H2 := hid h2
    have N := hid hn
    clear hR hO h1 h2
    cases gk with
    | zero =>
      obtain rfl : n = 32 := by omega
      clear hn
      go_wp2_with fail
      go_ret2
      have e1 := H1.out
      simp only [lead] at e1
      rw [ER.out, e1, ZN.out, ZZ.out, e1]
      exact ⟨rfl, O.out⟩
    | succ g =>
      have hn1 : (n : Int) ≤ 31 := by omega
      clear hn
      obtain ⟨q, hq⟩ : ∃ q, q = pos + n := ⟨_, rfl⟩
      have Q := hid hq
      rw [← hq] at R
      clear hq
      have B := hid (bit_any b s q wr R.out)
      by_cases hs : 8 * s.size ≤ q
      · have e : rdU s q 1 = (0, 5, q) := by unfold rdU; rw [if_neg (by omega), if_pos (by simp; omega)]
        rw [e] at B
        have e1 := H1.out
        rw [← Q.out] at e1
        simp only [lead, if_pos hs] at e1
        have E1 := hid e1
        clear hs e e1
        go_wp2_with fail
        refine B.out.mono ?_
        rintro e w1 ⟨rfl, hR, hO⟩
        have O1 := hid (O.out.trans hO)
        clear hR hO
        go_wp2_with fail
        rw [Exit.noGoto_ret]
        go_ret2
        rw [ER.out, E1.out, ZN.out, ZZ.out, E1.out]
        exact ⟨rfl, O1.out⟩
      · have e : rdU s q 1 = ((bitAt s q).toNat, 0, q + 1) := by
          unfold rdU; rw [if_neg (by omega), if_neg (by simp; omega)]
          simp [valOf]
        rw [e] at B
        have e1 := H1.out
        have e2 := H2.out
        rw [← Q.out] at e1 e2
        simp only [lead, if_neg hs] at e1 e2
        cases hb : bitAt s q with
        | true =>
          rw [hb] at B e1 e2
          simp only [if_true] at e1 e2
          have E1 := hid e1
          have E2 := hid e2
          clear hs e e1 e2 hb
          go_wp2_with fail
          refine B.out.mono ?_
          rintro e w1 ⟨rfl, hR, hO⟩
          have O1 := hid (O.out.trans hO)
          clear hR hO
          go_wp2_with fail
          try rw [Exit.noGoto_ret]
          go_ret2
          rw [ER.out, E1.out, ZN.out, ZZ.out, E1.out, if_pos rfl, E2.out, Nat.add_zero]
          exact ⟨rfl, O1.out⟩
        | false =>
          rw [hb] at B e1 e2
          simp only [Bool.false_eq_true, if_false] at e1 e2
          have E1 := hid e1
          have E2 := hid e2
          clear hs e e1 e2 hb
          go_wp2_with fail
          refine B.out.mono ?_
          rintro e w1 ⟨rfl, hR, hO⟩
          have R1 := hid hR
          have O1 := hid (O.out.trans hO)
          clear hR hO
          go_wp2_with fail
          go_roundg g
          case measure => omega
          case rel => exact ⟨n + 1, by have := N.out; omega, by go_num, by rw [← Nat.add_assoc, ← Q.out]; exact R1.out, O1.out, by rw [← Nat.add_assoc, ← Q.out]; exact E1.out, by rw [← Nat.add_assoc, ← Q.out, E2.out]; omega⟩
end Go.Proofs.YtdkmeldcpamnnaaDoor
