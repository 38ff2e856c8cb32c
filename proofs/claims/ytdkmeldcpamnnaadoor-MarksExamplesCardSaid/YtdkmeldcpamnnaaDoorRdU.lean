/- U of a reader of package bits. -/
import Derived.Test.YtdkmeldcpamnnaaDoorRd2
namespace Go.Proofs.YtdkmeldcpamnnaaDoor
open Go.RowKit
set_option linter.unusedVariables false

set_option maxHeartbeats 1000000 in
theorem u_yes (b : Nat) (s : ByteArray) (pos n : Nat) (w : World) (h : Rd w b s pos) (hn : n ≤ 64) (hle : pos + n ≤ 8 * s.size) :
    Calls Tryd.prog 42 #[.pointer (some ⟨b, 0, none⟩), .int .i64 n] w fun e w' => e = .returned (.tuple #[.int .u64 (valOf s pos n), .int .i64 0]) ∧ Rd w' b s (pos + n) ∧ Only [b] w w' := by
  have H := hid h
  have h2 := h.sz
  clear h
  go_enter Tryd.func42, Tryd.ntmps42
  go_wp2_with (go_at_call 51; refine (left_any b s pos _ H.out).mono ?_; rintro e w1 ⟨rfl, n1, rfl⟩)
  go_loopg [1, 6] n (fun g m v wr => ∃ j : Nat, j + g = n ∧ m = .int .i64 g ∧ v = .int .u64 (valOf s pos j) ∧ Rd wr b s (pos + j) ∧ Only [b] w wr)
  case atStart => exact ⟨0, by omega, rfl, rfl, H.out.drewN n1, (Only.refl _ _).drewN _⟩
  case round =>
    obtain ⟨j, hj, rfl, rfl, hR, hO⟩ := hrel
    obtain ⟨q, hq⟩ : ∃ q, q = pos + j := ⟨_, rfl⟩
    rw [← hq] at hR
    have hv : valOf s pos j < 2 ^ j := valOf_lt s pos j
    obtain ⟨v, ev⟩ : ∃ v, v = valOf s pos j := ⟨_, rfl⟩
    rw [← ev] at hv ⊢
    have EV := hid ev
    have Q := hid hq
    have J := hid hj
    have q1 : q + gk = pos + n := by omega
    have Q1 := hid q1
    have q2 : q + gk ≤ 8 * s.size := by omega
    have q3 : gk ≤ 64 := by omega
    have q4 : q ≤ 8 * s.size := by omega
    clear ev hq hj q1
    have hp := hR.hp
    have O := hid hO
    have R := hid hR
    clear hO hR
    by_cases h0 : gk = 0
    · subst h0
      go_wp2
      go_ret2
      have e1 : j = n := by have := J.out; omega
      have e2 : q = pos + n := by have := Q.out; omega
      rw [EV.out, e1, ← e2]
      exact ⟨rfl, R.out, O.out⟩
    · have h0' : (0 : Int) < (gk : Int) := by omega
      by_cases hm : (gk : Int) ≤ 8 - (q : Int) % 8
      · go_wp2_with fail
        go_cut [6] (fun s6 wx => s6 = .int .u64 (valOf s pos (j + gk)) ∧ Rd wx b s (q + gk) ∧ Only [b] w wx)
        case first =>
          go_region_with (go_at_call 52; refine (next_any b s q (gk : Int) _ (by first | exact R.out | exact R.out.drew) (by omega) (by omega) (by omega)).mono ?_; rintro e w2 ⟨rfl, hR2, hO2⟩; have R2 := hid hR2; have O2 := hid hO2; clear hR2 hO2)
          all_goals
            go_wp2_with fail
            go_meet
            refine ⟨?_, R2.out, ?_⟩
            · rw [or_val v (valOf s q gk) j gk hv (valOf_lt _ _ _) (by have := J.out; omega), EV.out, valOf_add, ← Q.out]
            · first | exact O.out.trans O2.out | exact O.out.trans (((Only.refl _ _).drew).trans O2.out) | exact (O.out.trans O2.out).drew
        case rest =>
          obtain ⟨rfl, hR3, hO3⟩ := hcut
          go_wp2
          go_roundg 0
          case measure => omega
          case rel => exact ⟨j + gk, by have := J.out; omega, by go_num, rfl, by rw [← Nat.add_assoc, ← Q.out]; exact hR3, hO3⟩
      · obtain ⟨k, hk⟩ : ∃ k : Nat, (k : Int) = 8 - (q : Int) % 8 := ⟨(8 - (q : Int) % 8).toNat, by omega⟩
        have hk1 : k = 8 - q % 8 := by omega
        have k1 : 1 ≤ k := by omega
        have k2 : q % 8 + k ≤ 8 := by omega
        have k3 : k < gk := by omega
        have K := hid hk
        clear hk hk1
        have hm' : 8 - (q : Int) % 8 < (gk : Int) := by omega
        go_wp2_with fail
        go_cut [6, 7] (fun s6 s7 wx => s6 = .int .u64 (valOf s pos (j + k)) ∧ s7 = .int .i64 k ∧ Rd wx b s (q + k) ∧ Only [b] w wx)
        case first =>
          rw [← K.out]
          go_region_with (go_at_call 52; refine (next_any b s q (k : Int) _ (by first | exact R.out | exact R.out.drew) (by omega) (by omega) (by omega)).mono ?_; rintro e w2 ⟨rfl, hR2, hO2⟩; have R2 := hid hR2; have O2 := hid hO2; clear hR2 hO2)
          all_goals
            go_wp2_with fail
            go_meet
            refine ⟨?_, rfl, R2.out, ?_⟩
            · rw [or_val v (valOf s q k) j k hv (valOf_lt _ _ _) (by have := J.out; omega), EV.out, valOf_add, ← Q.out]
            · first | exact O.out.trans O2.out | exact O.out.trans (((Only.refl _ _).drew).trans O2.out) | exact (O.out.trans O2.out).drew
        case rest =>
          obtain ⟨rfl, rfl, hR3, hO3⟩ := hcut
          go_wp2
          go_roundg (gk - k)
          case measure => omega
          case rel => exact ⟨j + k, by have := J.out; omega, by go_num, rfl, by rw [← Nat.add_assoc, ← Q.out]; exact hR3, hO3⟩
end Go.Proofs.YtdkmeldcpamnnaaDoor
