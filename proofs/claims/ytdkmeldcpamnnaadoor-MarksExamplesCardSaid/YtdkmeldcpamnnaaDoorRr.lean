/- The calls of a reader of the reference: what each returns, and what it changes. -/
import Derived.Test.YtdkmeldcpamnnaaDoorRows
import Derived.Test.YtdkmeldcpamnnaaDoorRdV
import Derived.Deep.LoopGhost
import Derived.RegionTactic
import Derived.ChangeAlike
import Derived.Deep.QuietTactic
import Derived.BigQuiet
namespace Go.Proofs.YtdkmeldcpamnnaaDoor
open Go.RowKit

set_option maxHeartbeats 400000 in
theorem rleft_any (b : Nat) (s : ByteArray) (pos : Nat) (w : World) (h : Rd w b s pos) :
    Calls Tryd.prog 67 #[.pointer (some ⟨b, 0, none⟩)] w fun e w' => e = .returned (.int .i64 (8 * (s.size : Int) - (pos : Int))) ∧ ∃ n, w' = w.drewN n := by
  have hp := h.hp
  have hs := h.hs
  have h1 := h.le
  have h2 := h.sz
  clear h
  go_enter Tryd.func67, Tryd.ntmps67
  go_wp2
  go_quiet (fail)
  go_wp2
  go_ret
  exact ⟨rfl, _, rfl⟩

set_option maxHeartbeats 1000000 in
theorem ru_yes (b : Nat) (s : ByteArray) (pos n : Nat) (w : World) (h : Rd w b s pos) (hn : n ≤ 64) (hle : pos + n ≤ 8 * s.size) :
    Calls Tryd.prog 62 #[.pointer (some ⟨b, 0, none⟩), .int .i64 n] w fun e w' => e = .returned (.tuple #[.int .u64 (valOf s pos n), .int .i64 0]) ∧ Rd w' b s (pos + n) ∧ Only [b] w w' := by
  have H := hid h
  have h2 := h.sz
  clear h
  go_enter Tryd.func62, Tryd.ntmps62
  go_wp2_with (go_at_call 67; refine (rleft_any b s pos _ H.out).mono ?_; rintro e w1 ⟨rfl, n1, rfl⟩)
  go_loopg [6, 7] n (fun g v i wr => ∃ j : Nat, j + g = n ∧ i = .int .i64 j ∧ v = .int .u64 (valOf s pos j) ∧ Rd wr b s (pos + j) ∧ Only [b] w wr)
  case atStart => exact ⟨0, by omega, rfl, rfl, H.out.drewN n1, (Only.refl _ _).drewN _⟩
  case round =>
    obtain ⟨j, hj, rfl, rfl, hR, hO⟩ := hrel
    have hv : valOf s pos j < 2 ^ j := valOf_lt s pos j
    obtain ⟨v, ev⟩ : ∃ v, v = valOf s pos j := ⟨_, rfl⟩
    obtain ⟨q, hq⟩ : ∃ q, q = pos + j := ⟨_, rfl⟩
    rw [← hq] at hR
    rw [← ev] at hv ⊢
    have EV := hid ev
    have Q := hid hq
    have J := hid hj
    have O := hid hO
    have R := hid hR
    have q2 : q + gk ≤ 8 * s.size := by omega
    have q3 : j ≤ 64 := by omega
    have hp := hR.hp
    have hs := hR.hs
    have hf := hR.hf
    have hjn : j + gk = n := hj
    clear ev hq hj hO hR
    by_cases h0 : gk = 0
    · subst h0
      obtain rfl : j = n := by omega
      clear hjn
      go_wp2
      go_ret2
      rw [EV.out, ← Q.out]
      exact ⟨rfl, R.out, O.out⟩
    · have h0' : (j : Int) < (n : Int) := by omega
      have i1 : (0 : Int) ≤ (q : Int) / 8 := by omega
      have i2 : (q : Int) / 8 < (s.size : Int) := by omega
      clear hjn
      go_wp2
      go_quiet (fail)
      go_wp2
      go_roundg (gk - 1)
      case measure => omega
      case rel =>
        refine ⟨j + 1, by have := J.out; omega, by go_num, ?_, ?_, ?_⟩
        · rw [bit_more s q v j hv (by have := J.out; omega) (by omega)]
          simp only [valOf]
          rw [← EV.out, ← Q.out]
        · have := (R.out.set (q + 1) (by omega))
          rw [Int.natCast_add] at this
          rw [← Nat.add_assoc, ← Q.out]
          exact ⟨this.hs, this.hp, this.hf, this.le, this.sz⟩
        · exact (O.out.drewN _).setCell (.inl (by simp)) _

set_option maxHeartbeats 400000 in
theorem ru_range (b : Nat) (n : Int) (w : World) (h : n < 0 ∨ 64 < n) :
    Calls Tryd.prog 62 #[.pointer (some ⟨b, 0, none⟩), .int .i64 n] w fun e w' => e = .returned (.tuple #[.int .u64 0, .int .i64 3]) ∧ w = w' := by
  rcases h with h | h
  · go_enter Tryd.func62, Tryd.ntmps62
    go_wp2
    go_ret2
    exact ⟨rfl, rfl⟩
  · have h' : 0 ≤ n := by omega
    go_enter Tryd.func62, Tryd.ntmps62
    go_wp2
    go_ret2
    exact ⟨rfl, rfl⟩

set_option maxHeartbeats 400000 in
theorem ru_short (b : Nat) (s : ByteArray) (pos : Nat) (n : Int) (w : World) (h : Rd w b s pos) (h1 : 0 ≤ n) (h2 : n ≤ 64) (h3 : 8 * (s.size : Int) - pos < n) :
    Calls Tryd.prog 62 #[.pointer (some ⟨b, 0, none⟩), .int .i64 n] w fun e w' => e = .returned (.tuple #[.int .u64 0, .int .i64 5]) ∧ ∃ k, w' = w.drewN k := by
  go_enter Tryd.func62, Tryd.ntmps62
  go_wp2_with (go_at_call 67; refine (rleft_any b s pos _ h).mono ?_; rintro e w1 ⟨rfl, n1, rfl⟩)
  go_ret2
  exact ⟨rfl, _, rfl⟩

/-- U of a reader, for any n. -/
theorem ru_any (b : Nat) (s : ByteArray) (pos : Nat) (n : Int) (w : World) (h : Rd w b s pos) :
    Calls Tryd.prog 62 #[.pointer (some ⟨b, 0, none⟩), .int .i64 n] w fun e w' => e = .returned (.tuple #[.int .u64 (rdU s pos n).1, .int .i64 (rdU s pos n).2.1]) ∧ Rd w' b s (rdU s pos n).2.2 ∧ Only [b] w w' := by
  unfold rdU
  by_cases h1 : n < 0 ∨ 64 < n
  · rw [if_pos h1]
    exact (ru_range b n w h1).mono fun e w' ⟨he, hw⟩ => ⟨he, hw ▸ h, hw ▸ Only.refl _ _⟩
  · rw [if_neg h1]
    by_cases h2 : 8 * s.size < pos + n.toNat
    · rw [if_pos h2]
      refine (ru_short b s pos n w h (by omega) (by omega) (by omega)).mono fun e w' ⟨he, k, hw⟩ => ⟨he, hw ▸ h.drewN k, hw ▸ (Only.refl _ _).drewN k⟩
    · rw [if_neg h2]
      obtain ⟨j, rfl⟩ := Int.eq_ofNat_of_zero_le (show 0 ≤ n by omega)
      exact ru_yes b s pos j w h (by omega) (by simp at h2; omega)

set_option maxHeartbeats 400000 in
theorem ru_nil (n : Int) (w : World) :
    Calls Tryd.prog 62 #[.pointer none, .int .i64 n] w fun e w' => e = .returned (.tuple #[.int .u64 0, .int .i64 1]) ∧ w = w' := by
  go_enter Tryd.func62, Tryd.ntmps62
  go_wp2
  go_ret2
  exact ⟨rfl, rfl⟩

set_option maxHeartbeats 400000 in
theorem rbit_any (b : Nat) (s : ByteArray) (pos : Nat) (w : World) (h : Rd w b s pos) :
    Calls Tryd.prog 60 #[.pointer (some ⟨b, 0, none⟩)] w fun e w' => e = .returned (.tuple #[.int .u8 (rdU s pos 1).1, .int .i64 (rdU s pos 1).2.1]) ∧ Rd w' b s (rdU s pos 1).2.2 ∧ Only [b] w w' := by
  have C := ru_any b s pos 1 w h
  have hb := rdU_lt s pos 1
  generalize rdU s pos 1 = r at *
  obtain ⟨x, y, z⟩ := r
  have hx : x < 2 := hb
  clear hb
  go_enter Tryd.func60, Tryd.ntmps60
  go_wp2_with (go_at_call 62; refine C.mono ?_; rintro e w1 ⟨rfl, hR, hO⟩)
  go_ret2
  exact ⟨rfl, hR, hO⟩

set_option maxHeartbeats 400000 in
theorem rbit_nil (w : World) :
    Calls Tryd.prog 60 #[.pointer none] w fun e w' => e = .returned (.tuple #[.int .u8 0, .int .i64 1]) ∧ w = w' := by
  go_enter Tryd.func60, Tryd.ntmps60
  go_wp2_with (go_at_call 62; refine (ru_nil 1 _).mono ?_; rintro e w1 ⟨rfl, rfl⟩)
  go_ret2
  exact ⟨rfl, rfl⟩

set_option maxHeartbeats 400000 in
theorem rleft_nil (w : World) : Calls Tryd.prog 67 #[.pointer none] w fun e w' => e = .returned (.int .i64 0) ∧ w = w' := by
  go_enter Tryd.func67, Tryd.ntmps67
  go_wp2
  go_ret
  exact ⟨rfl, rfl⟩
end Go.Proofs.YtdkmeldcpamnnaaDoor

