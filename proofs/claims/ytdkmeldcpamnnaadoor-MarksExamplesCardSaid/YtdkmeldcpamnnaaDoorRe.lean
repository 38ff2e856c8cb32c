/- The reference's reader of codes: Ue. -/
import Derived.Test.YtdkmeldcpamnnaaDoorRr
import Derived.Test.YtdkmeldcpamnnaaDoorUeM
import Derived.Deep.LoopGhost
import Derived.Deep.DeepCutAuto
namespace Go.Proofs.YtdkmeldcpamnnaaDoor
open Go.RowKit
set_option linter.unusedVariables false

set_option maxHeartbeats 400000 in
theorem rback_any (b : Nat) (s : ByteArray) (q at_ : Nat) (er : Int) (w : World) (h : Rd w b s q) (ha : at_ ≤ 8 * s.size) :
    Calls Tryd.prog 61 #[.pointer (some ⟨b, 0, none⟩), .int .i64 at_, .int .i64 er] w fun e w' => e = .returned (.tuple #[.int .u64 0, .int .i64 er]) ∧ Rd w' b s at_ ∧ Only [b] w w' := by
  have H := hid h
  have hp := h.hp
  have hf := h.hf
  clear h
  go_enter Tryd.func61, Tryd.ntmps61
  go_wp2
  go_ret2
  exact ⟨rfl, H.out.set at_ ha, (Only.refl _ _).setCell (.inl (by simp)) _⟩

theorem ret_tup' {k : IntKind} {a b : Int} {x : Value} (h : a = b) : Ending.returned (.tuple #[.int k a, x]) = .returned (.tuple #[.int k b, x]) := by rw [h]
theorem rdUk_no {s : ByteArray} {pos k : Nat} (h : (lead s pos 32).2 ≠ 0) : rdUk s pos k = (0, (lead s pos 32).2, pos) := by unfold rdUk; rw [if_pos h]
theorem rdUk_short {s : ByteArray} {pos k z : Nat} (h : lead s pos 32 = (z, 0)) (h1 : 8 * s.size < pos + (2 * z + 1 + k)) : rdUk s pos k = (0, 5, pos) := by unfold rdUk; rw [h, if_neg (by simp), if_pos h1]
theorem rdUk_yes {s : ByteArray} {pos k z : Nat} (h : lead s pos 32 = (z, 0)) (h1 : pos + (2 * z + 1 + k) ≤ 8 * s.size) :
    rdUk s pos k = ((2 ^ z + valOf s (pos + z + 1) z - 1) * 2 ^ k + valOf s (pos + (2 * z + 1)) k, 0, pos + (2 * z + 1 + k)) := by
  have e := valOf_code (s := s) (pos := pos) (f := 32) (by rw [h]) z
  rw [h] at e
  simp only at e
  rw [show z + (1 + z) = 2 * z + 1 from by omega] at e
  unfold rdUk; rw [h, if_neg (by simp), if_neg (by simp only; omega)]
  simp only
  rw [e]

set_option maxHeartbeats 2000000 in
theorem rue_any (b : Nat) (s : ByteArray) (pos : Nat) (w : World) (h : Rd w b s pos) :
    Calls Tryd.prog 53 #[.pointer (some ⟨b, 0, none⟩)] w fun e w' => e = .returned (.tuple #[.int .u64 (rdUk s pos 0).1, .int .i64 (rdUk s pos 0).2.1]) ∧ Rd w' b s (rdUk s pos 0).2.2 ∧ Only [b] w w' := by
  have H := hid h
  have hp := h.hp
  have hle := h.le
  obtain ⟨L, hL⟩ : ∃ L, L = lead s pos 32 := ⟨_, rfl⟩
  have NO := hid (rdUk_no (s := s) (pos := pos) (k := 0))
  have SH := hid (fun z => rdUk_short (s := s) (pos := pos) (k := 0) (z := z))
  have YS := hid (fun z => rdUk_yes (s := s) (pos := pos) (k := 0) (z := z))
  rw [← hL] at NO SH YS
  have LL := hid hL
  obtain ⟨r, hr⟩ : ∃ r, r = rdUk s pos 0 := ⟨_, rfl⟩
  rw [← hr] at NO SH YS ⊢
  obtain ⟨x, y, z⟩ := r
  clear hL hr h
  go_enter Tryd.func53, Tryd.ntmps53
  go_wp2_with fail
  go_loopg [5] 32 (fun g i wr => ∃ n : Nat, n + g = 32 ∧ 1 ≤ g ∧ i = .int .i64 n ∧ Rd wr b s (pos + n) ∧ Only [b] w wr ∧ L.2 = (lead s (pos + n) g).2 ∧ L.1 = n + (lead s (pos + n) g).1)
  case atStart => exact ⟨0, by omega, by omega, rfl, H.out, Only.refl _ _, by rw [LL.out]; rfl, by rw [LL.out, Nat.zero_add]; rfl⟩
  case round =>
    obtain ⟨n, hn, hg, rfl, hR, hO, h1, h2⟩ := hrel
    have R := hid hR
    have O := hid hO
    have H1 := hid h1
    have H2 := hid h2
    have N := hid hn
    clear hR hO h1 h2
    cases gk with
    | zero => omega
    | succ g =>
      have hn1 : (n : Int) ≤ 31 := by omega
      clear hn hg
      obtain ⟨q, hq⟩ : ∃ q, q = pos + n := ⟨_, rfl⟩
      have Q := hid hq
      rw [← hq] at R
      clear hq
      have B := hid (rbit_any b s q wr R.out)
      by_cases hs : 8 * s.size ≤ q
      · have e : rdU s q 1 = (0, 5, q) := by unfold rdU; rw [if_neg (by omega), if_pos (by simp; omega)]
        rw [e] at B
        have e1 := H1.out
        rw [← Q.out] at e1
        simp only [lead, if_pos hs] at e1
        have E1 := hid e1
        clear hs e e1
        go_wp2_with fail
        refine B.out.mono ?_
        rintro e w1 ⟨rfl, hR, hO⟩
        have O1 := hid (O.out.trans hO)
        have BK := hid (rback_any b s q pos 5 w1 hR hle)
        clear hR hO
        go_wp2_with fail
        refine BK.out.mono ?_
        rintro e w2 ⟨rfl, hR2, hO2⟩
        go_wp2_with fail
        try rw [Exit.noGoto_ret]
        go_ret2
        have e := NO.out (by rw [E1.out]; decide)
        rw [E1.out] at e
        simp only [Prod.mk.injEq] at e
        obtain ⟨rfl, rfl, rfl⟩ := e
        exact ⟨rfl, hR2, O1.out.trans hO2⟩
      · have e : rdU s q 1 = ((bitAt s q).toNat, 0, q + 1) := by
          unfold rdU; rw [if_neg (by omega), if_neg (by simp; omega)]
          simp [valOf]
        rw [e] at B
        have e1 := H1.out
        have e2 := H2.out
        rw [← Q.out] at e1 e2
        simp only [lead, if_neg hs] at e1 e2
        cases hb : bitAt s q with
        | true =>
          rw [hb] at B e1 e2
          simp only [if_true] at e1 e2
          have EL := hid (show L = (n, 0) from Prod.ext_iff.2 ⟨e2, e1⟩)
          clear hs e e1 e2 hb
          have U := hid (fun w h => ru_any b s (q + 1) n w h)
          by_cases hl : 8 * s.size < q + 1 + n
          · have e : rdU s (q + 1) n = (0, 5, q + 1) := by unfold rdU; rw [if_neg (by omega), if_pos (by simp; omega)]
            rw [e] at U
            have e3 := SH.out n EL.out (by rw [Q.out] at hl; omega)
            simp only [Prod.mk.injEq] at e3
            have E3 := hid e3
            clear hl e e3
            go_wp2_with fail
            refine B.out.mono ?_
            rintro e w1 ⟨rfl, hR, hO⟩
            have O1 := hid (O.out.trans hO)
            have U1 := hid (U.out w1 hR)
            clear hR hO
            go_wp2_with fail
            refine U1.out.mono ?_
            rintro e w2 ⟨rfl, hR2, hO2⟩
            have O2 := hid (O1.out.trans hO2)
            have BK := hid (rback_any b s _ pos 5 w2 hR2 hle)
            clear hR2 hO2
            go_wp2_with fail
            refine BK.out.mono ?_
            rintro e w3 ⟨rfl, hR3, hO3⟩
            go_wp2_with fail
            try rw [Exit.noGoto_ret]
            go_ret2
            obtain ⟨rfl, rfl, rfl⟩ := E3.out
            exact ⟨rfl, hR3, O2.out.trans hO3⟩
          · have e : rdU s (q + 1) n = (valOf s (q + 1) n, 0, q + 1 + n) := by unfold rdU; rw [if_neg (by omega), if_neg (by simp; omega)]; simp
            rw [e] at U
            have e3 := YS.out n EL.out (by rw [Q.out] at hl; omega)
            simp only [Prod.mk.injEq] at e3
            rw [← Q.out, Nat.pow_zero, Nat.mul_one, show valOf s (pos + (2 * n + 1)) 0 = 0 from rfl, Nat.add_zero, Nat.add_zero] at e3
            have hv := valOf_lt s (q + 1) n
            generalize valOf s (q + 1) n = v at *
            have hpow : (2 : Int) ^ n = ((2 ^ n : Nat) : Int) := by rw [Int.natCast_pow]; rfl
            have hp2 : 2 ^ n ≤ 2 ^ 31 := Nat.pow_le_pow_right (by omega) (by omega)
            have hp0 : 0 < 2 ^ n := Nat.pow_pos (by omega)
            have p31 : (2 : Nat) ^ 31 = 2147483648 := by decide
            have hw : IntKind.u64.wrap ((2 : Int) ^ n) = (2 : Int) ^ n := by rw [hpow]; exact wrap_nat _ (by omega)
            have i1 : (0 : Int) ≤ 2 ^ n := by rw [hpow]; omega
            have i2 : (2 : Int) ^ n ≤ 2147483648 := by rw [hpow]; omega
            have i3 : (v : Int) ≤ 2147483648 := by omega
            have i4 : (1 : Int) ≤ 2 ^ n := by rw [hpow]; omega
            have FIN := hid (show (2 : Int) ^ n + (v : Int) - 1 = ((2 ^ n + v - 1 : Nat) : Int) from by rw [hpow]; omega)
            have E3 := hid e3
            clear hl e e3 hp2 hp0 p31 hpow hv
            go_wp2_with fail
            refine B.out.mono ?_
            rintro e w1 ⟨rfl, hR, hO⟩
            have O1 := hid (O.out.trans hO)
            have U1 := hid (U.out w1 hR)
            clear hR hO
            go_wp2_with fail
            refine U1.out.mono ?_
            rintro e w2 ⟨rfl, hR2, hO2⟩
            go_wp2_with fail
            go_ret2
            obtain ⟨rfl, rfl, rfl⟩ := E3.out
            refine ⟨ret_tup' FIN.out, ?_, O1.out.trans hO2⟩
            rw [show pos + (2 * n + 1) = q + 1 + n from by rw [Q.out]; omega]
            exact hR2
        | false =>
          rw [hb] at B e1 e2
          simp only [Bool.false_eq_true, if_false] at e1 e2
          have E1 := hid e1
          have E2 := hid e2
          clear hs e e1 e2 hb
          cases g with
          | zero =>
            have hn31 : n = 31 := by have := N.out; omega
            subst hn31
            simp only [lead] at E1
            go_wp2_with fail
            refine B.out.mono ?_
            rintro e w1 ⟨rfl, hR, hO⟩
            have O1 := hid (O.out.trans hO)
            have BK := hid (rback_any b s _ pos 4 w1 hR hle)
            clear hR hO
            go_wp2_with fail
            refine BK.out.mono ?_
            rintro e w2 ⟨rfl, hR2, hO2⟩
            go_wp2_with fail
            try rw [Exit.noGoto_ret]
            go_ret2
            have e := NO.out (by rw [E1.out]; decide)
            rw [E1.out] at e
            simp only [Prod.mk.injEq] at e
            obtain ⟨rfl, rfl, rfl⟩ := e
            exact ⟨rfl, hR2, O1.out.trans hO2⟩
          | succ g' =>
            have hn2 : (n : Int) + 1 ≤ 31 := by have := N.out; omega
            have hn3 : ((n : Int) + 1 == 32) = false := by rw [beq_eq_false_iff_ne]; omega
            go_wp2_with fail
            refine B.out.mono ?_
            rintro e w1 ⟨rfl, hR, hO⟩
            have R1 := hid hR
            have O1 := hid (O.out.trans hO)
            clear hR hO
            go_wp2_with fail
            go_roundg (g' + 1)
            case measure => omega
            case rel => exact ⟨n + 1, by have := N.out; omega, by omega, by go_num, by rw [← Nat.add_assoc, ← Q.out]; exact R1.out, O1.out, by rw [← Nat.add_assoc, ← Q.out]; exact E1.out, by rw [← Nat.add_assoc, ← Q.out, E2.out]; omega⟩
end Go.Proofs.YtdkmeldcpamnnaaDoor
