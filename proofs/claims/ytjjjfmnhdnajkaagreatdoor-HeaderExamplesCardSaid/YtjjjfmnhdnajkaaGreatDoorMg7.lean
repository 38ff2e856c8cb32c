/- The calls of a reader of package bits: what each returns, and what it changes. -/
/- U of a reader of package bits. -/
/- U and Bit of a reader of package bits, for any number of bits; a reader that is nil. -/
/- The calls of a reader of the reference: what each returns, and what it changes. -/
/- Copy of a reader of the reference. -/
import Derived.Test.YtjjjfmnhdnajkaaGreatDoorMg2
import Derived.Test.YtjjjfmnhdnajkaaGreatDoorMg1
import Derived.Deep.DeepCutAuto
import Derived.Deep.LoopGhost
import Derived.Deep.RegionWith
import Derived.Test.YtjjjfmnhdnajkaaGreatDoorRows
import Derived.RegionTactic
import Derived.ChangeAlike
import Derived.Deep.QuietTactic
import Derived.BigQuiet
section
set_option maxRecDepth 20000
namespace Go.Proofs.YtjjjfmnhdnajkaaGreatDoor
open Go.RowKit

theorem set_drewN (w : World) (n : Nat) (a : Addr) (v : Value) : (w.drewN n).setCell a v = (w.setCell a v).drewN n := rfl

set_option maxHeartbeats 400000 in
theorem next_nat (b : Nat) (s : ByteArray) (pos k : Nat) (w : World) (h : Rd w b s pos) (hk : 1 ≤ k) (hk8 : pos % 8 + k ≤ 8) (hlt : pos + k ≤ 8 * s.size) :
    Calls Tryz.prog 121 #[.pointer (some ⟨b, 0, none⟩), .int .i64 k] w fun e w' => e = .returned (.int .u8 (valOf s pos k)) ∧ Rd w' b s (pos + k) ∧ Only [b] w w' := by
  have H := hid h
  have hp := h.hp
  have hs := h.hs
  have hf := h.hf
  have h1 := h.le
  have h2 := h.sz
  have i1 : (0 : Int) ≤ (pos : Int) / 8 := by omega
  have i2 : (pos : Int) / 8 < (s.size : Int) := by omega
  clear h
  go_enter Tryz.func121, Tryz.ntmps121
  go_wp2
  go_quiet (fail)
  go_wp2
  go_ret
  refine ⟨ret_int ?_, ?_, ?_⟩
  · rw [← next_val s pos k hk8]
    have e : s.data.getD (pos / 8) 0 = s[pos / 8] := by
      have hz : pos / 8 < s.data.size := by show pos / 8 < s.size; omega
      rw [Array.getD_eq_getD_getElem?, Array.getElem?_eq_getElem hz]; rfl
    rw [e]
    simp [Int.natCast_ediv, Int.natCast_emod, Int.natCast_mul, Int.natCast_pow]
  · have := (H.out.set (pos + k) hlt)
    rw [Int.natCast_add] at this
    exact ⟨this.hs, this.hp, this.hf, this.le, this.sz⟩
  · exact ((Only.refl _ _).drewN _).setCell (.inl (by simp)) _
theorem next_any (b : Nat) (s : ByteArray) (pos : Nat) (k : Int) (w : World) (h : Rd w b s pos) (hk : 1 ≤ k) (hk8 : (pos : Int) % 8 + k ≤ 8) (hlt : (pos : Int) + k ≤ 8 * s.size) :
    Calls Tryz.prog 121 #[.pointer (some ⟨b, 0, none⟩), .int .i64 k] w fun e w' => e = .returned (.int .u8 (valOf s pos k.toNat)) ∧ Rd w' b s (pos + k.toNat) ∧ Only [b] w w' := by
  obtain ⟨j, rfl⟩ := Int.eq_ofNat_of_zero_le (show 0 ≤ k by omega)
  exact next_nat b s pos j w h (by omega) (by omega) (by omega)
end Go.Proofs.YtjjjfmnhdnajkaaGreatDoor

end
section
set_option maxRecDepth 20000
namespace Go.Proofs.YtjjjfmnhdnajkaaGreatDoor
open Go.RowKit
set_option linter.unusedVariables false

set_option maxHeartbeats 1000000 in
theorem u_yes (b : Nat) (s : ByteArray) (pos n : Nat) (w : World) (h : Rd w b s pos) (hn : n ≤ 64) (hle : pos + n ≤ 8 * s.size) :
    Calls Tryz.prog 82 #[.pointer (some ⟨b, 0, none⟩), .int .i64 n] w fun e w' => e = .returned (.tuple #[.int .u64 (valOf s pos n), .int .i64 0]) ∧ Rd w' b s (pos + n) ∧ Only [b] w w' := by
  have H := hid h
  have h2 := h.sz
  clear h
  go_enter Tryz.func82, Tryz.ntmps82
  go_wp2_with (go_at_call 120; refine (left_any b s pos _ H.out).mono ?_; rintro e w1 ⟨rfl, n1, rfl⟩)
  go_loopg [1, 6] n (fun g m v wr => ∃ j : Nat, j + g = n ∧ m = .int .i64 g ∧ v = .int .u64 (valOf s pos j) ∧ Rd wr b s (pos + j) ∧ Only [b] w wr)
  case atStart => exact ⟨0, by omega, rfl, rfl, H.out.drewN n1, (Only.refl _ _).drewN _⟩
  case round =>
    obtain ⟨j, hj, rfl, rfl, hR, hO⟩ := hrel
    obtain ⟨q, hq⟩ : ∃ q, q = pos + j := ⟨_, rfl⟩
    rw [← hq] at hR
    have hv : valOf s pos j < 2 ^ j := valOf_lt s pos j
    obtain ⟨v, ev⟩ : ∃ v, v = valOf s pos j := ⟨_, rfl⟩
    rw [← ev] at hv ⊢
    have EV := hid ev
    have Q := hid hq
    have J := hid hj
    have q1 : q + gk = pos + n := by omega
    have Q1 := hid q1
    have q2 : q + gk ≤ 8 * s.size := by omega
    have q3 : gk ≤ 64 := by omega
    have q4 : q ≤ 8 * s.size := by omega
    clear ev hq hj q1
    have hp := hR.hp
    have O := hid hO
    have R := hid hR
    clear hO hR
    by_cases h0 : gk = 0
    · subst h0
      go_wp2
      go_ret2
      have e1 : j = n := by have := J.out; omega
      have e2 : q = pos + n := by have := Q.out; omega
      rw [EV.out, e1, ← e2]
      exact ⟨rfl, R.out, O.out⟩
    · have h0' : (0 : Int) < (gk : Int) := by omega
      by_cases hm : (gk : Int) ≤ 8 - (q : Int) % 8
      · go_wp2_with fail
        go_cut [6] (fun s6 wx => s6 = .int .u64 (valOf s pos (j + gk)) ∧ Rd wx b s (q + gk) ∧ Only [b] w wx)
        case first =>
          go_region_with (go_at_call 121; refine (next_any b s q (gk : Int) _ (by first | exact R.out | exact R.out.drew) (by omega) (by omega) (by omega)).mono ?_; rintro e w2 ⟨rfl, hR2, hO2⟩; have R2 := hid hR2; have O2 := hid hO2; clear hR2 hO2)
          all_goals
            go_wp2_with fail
            go_meet
            refine ⟨?_, R2.out, ?_⟩
            · rw [or_val v (valOf s q gk) j gk hv (valOf_lt _ _ _) (by have := J.out; omega), EV.out, valOf_add, ← Q.out]
            · first | exact O.out.trans O2.out | exact O.out.trans (((Only.refl _ _).drew).trans O2.out) | exact (O.out.trans O2.out).drew
        case rest =>
          obtain ⟨rfl, hR3, hO3⟩ := hcut
          go_wp2
          go_roundg 0
          case measure => omega
          case rel => exact ⟨j + gk, by have := J.out; omega, by go_num, rfl, by rw [← Nat.add_assoc, ← Q.out]; exact hR3, hO3⟩
      · obtain ⟨k, hk⟩ : ∃ k : Nat, (k : Int) = 8 - (q : Int) % 8 := ⟨(8 - (q : Int) % 8).toNat, by omega⟩
        have hk1 : k = 8 - q % 8 := by omega
        have k1 : 1 ≤ k := by omega
        have k2 : q % 8 + k ≤ 8 := by omega
        have k3 : k < gk := by omega
        have K := hid hk
        clear hk hk1
        have hm' : 8 - (q : Int) % 8 < (gk : Int) := by omega
        go_wp2_with fail
        go_cut [6, 7] (fun s6 s7 wx => s6 = .int .u64 (valOf s pos (j + k)) ∧ s7 = .int .i64 k ∧ Rd wx b s (q + k) ∧ Only [b] w wx)
        case first =>
          rw [← K.out]
          go_region_with (go_at_call 121; refine (next_any b s q (k : Int) _ (by first | exact R.out | exact R.out.drew) (by omega) (by omega) (by omega)).mono ?_; rintro e w2 ⟨rfl, hR2, hO2⟩; have R2 := hid hR2; have O2 := hid hO2; clear hR2 hO2)
          all_goals
            go_wp2_with fail
            go_meet
            refine ⟨?_, rfl, R2.out, ?_⟩
            · rw [or_val v (valOf s q k) j k hv (valOf_lt _ _ _) (by have := J.out; omega), EV.out, valOf_add, ← Q.out]
            · first | exact O.out.trans O2.out | exact O.out.trans (((Only.refl _ _).drew).trans O2.out) | exact (O.out.trans O2.out).drew
        case rest =>
          obtain ⟨rfl, rfl, hR3, hO3⟩ := hcut
          go_wp2
          go_roundg (gk - k)
          case measure => omega
          case rel => exact ⟨j + k, by have := J.out; omega, by go_num, rfl, by rw [← Nat.add_assoc, ← Q.out]; exact hR3, hO3⟩
end Go.Proofs.YtjjjfmnhdnajkaaGreatDoor

end
section
set_option maxRecDepth 20000
namespace Go.Proofs.YtjjjfmnhdnajkaaGreatDoor
open Go.RowKit
set_option linter.unusedVariables false

set_option maxHeartbeats 400000 in
theorem u_range (b : Nat) (n : Int) (w : World) (h : n < 0 ∨ 64 < n) :
    Calls Tryz.prog 82 #[.pointer (some ⟨b, 0, none⟩), .int .i64 n] w fun e w' => e = .returned (.tuple #[.int .u64 0, .int .i64 3]) ∧ w = w' := by
  rcases h with h | h
  · go_enter Tryz.func82, Tryz.ntmps82
    go_wp2
    go_ret2
    exact ⟨rfl, rfl⟩
  · have h' : 0 ≤ n := by omega
    go_enter Tryz.func82, Tryz.ntmps82
    go_wp2
    go_ret2
    exact ⟨rfl, rfl⟩

set_option maxHeartbeats 400000 in
theorem u_short (b : Nat) (s : ByteArray) (pos : Nat) (n : Int) (w : World) (h : Rd w b s pos) (h1 : 0 ≤ n) (h2 : n ≤ 64) (h3 : 8 * (s.size : Int) - pos < n) :
    Calls Tryz.prog 82 #[.pointer (some ⟨b, 0, none⟩), .int .i64 n] w fun e w' => e = .returned (.tuple #[.int .u64 0, .int .i64 5]) ∧ ∃ k, w' = w.drewN k := by
  go_enter Tryz.func82, Tryz.ntmps82
  go_wp2_with (go_at_call 120; refine (left_any b s pos _ h).mono ?_; rintro e w1 ⟨rfl, n1, rfl⟩)
  go_ret2
  exact ⟨rfl, _, rfl⟩

/-- U of a reader, for any n. -/
theorem u_any (b : Nat) (s : ByteArray) (pos : Nat) (n : Int) (w : World) (h : Rd w b s pos) :
    Calls Tryz.prog 82 #[.pointer (some ⟨b, 0, none⟩), .int .i64 n] w fun e w' => e = .returned (.tuple #[.int .u64 (rdU s pos n).1, .int .i64 (rdU s pos n).2.1]) ∧ Rd w' b s (rdU s pos n).2.2 ∧ Only [b] w w' := by
  unfold rdU
  by_cases h1 : n < 0 ∨ 64 < n
  · rw [if_pos h1]
    exact (u_range b n w h1).mono fun e w' ⟨he, hw⟩ => ⟨he, hw ▸ h, hw ▸ Only.refl _ _⟩
  · rw [if_neg h1]
    by_cases h2 : 8 * s.size < pos + n.toNat
    · rw [if_pos h2]
      refine (u_short b s pos n w h (by omega) (by omega) (by omega)).mono fun e w' ⟨he, k, hw⟩ => ⟨he, hw ▸ h.drewN k, hw ▸ (Only.refl _ _).drewN k⟩
    · rw [if_neg h2]
      obtain ⟨j, rfl⟩ := Int.eq_ofNat_of_zero_le (show 0 ≤ n by omega)
      exact u_yes b s pos j w h (by omega) (by simp at h2; omega)

set_option maxHeartbeats 400000 in
theorem u_nil (n : Int) (w : World) :
    Calls Tryz.prog 82 #[.pointer none, .int .i64 n] w fun e w' => e = .returned (.tuple #[.int .u64 0, .int .i64 1]) ∧ w = w' := by
  go_enter Tryz.func82, Tryz.ntmps82
  go_wp2
  go_ret2
  exact ⟨rfl, rfl⟩

theorem rdU_lt (s : ByteArray) (pos : Nat) (n : Int) : (rdU s pos n).1 < 2 ^ n.toNat := by
  unfold rdU; split
  · exact Nat.pow_pos (by omega)
  · split
    · exact Nat.pow_pos (by omega)
    · exact valOf_lt _ _ _

set_option maxHeartbeats 400000 in
theorem bit_any (b : Nat) (s : ByteArray) (pos : Nat) (w : World) (h : Rd w b s pos) :
    Calls Tryz.prog 162 #[.pointer (some ⟨b, 0, none⟩)] w fun e w' => e = .returned (.tuple #[.int .u8 (rdU s pos 1).1, .int .i64 (rdU s pos 1).2.1]) ∧ Rd w' b s (rdU s pos 1).2.2 ∧ Only [b] w w' := by
  have C := u_any b s pos 1 w h
  have hb := rdU_lt s pos 1
  generalize rdU s pos 1 = r at *
  obtain ⟨x, y, z⟩ := r
  have hx : x < 2 := hb
  clear hb
  go_enter Tryz.func162, Tryz.ntmps162
  go_wp2_with (go_at_call 82; refine C.mono ?_; rintro e w1 ⟨rfl, hR, hO⟩)
  go_ret2
  exact ⟨rfl, hR, hO⟩

set_option maxHeartbeats 400000 in
theorem bit_nil (w : World) :
    Calls Tryz.prog 162 #[.pointer none] w fun e w' => e = .returned (.tuple #[.int .u8 0, .int .i64 1]) ∧ w = w' := by
  go_enter Tryz.func162, Tryz.ntmps162
  go_wp2_with (go_at_call 82; refine (u_nil 1 _).mono ?_; rintro e w1 ⟨rfl, rfl⟩)
  go_ret2
  exact ⟨rfl, rfl⟩

set_option maxHeartbeats 400000 in
theorem pos_nil (w : World) : Calls Tryz.prog 41 #[.pointer none] w fun e w' => e = .returned (.int .i64 0) ∧ w = w' := by
  go_enter Tryz.func41, Tryz.ntmps41
  go_wp2
  go_ret
  exact ⟨rfl, rfl⟩
set_option maxHeartbeats 400000 in
theorem left_nil (w : World) : Calls Tryz.prog 120 #[.pointer none] w fun e w' => e = .returned (.int .i64 0) ∧ w = w' := by
  go_enter Tryz.func120, Tryz.ntmps120
  go_wp2
  go_ret
  exact ⟨rfl, rfl⟩
set_option maxHeartbeats 400000 in
theorem copy_nil (w : World) : Calls Tryz.prog 94 #[.pointer none] w fun e w' => e = .returned (.pointer none) ∧ w = w' := by
  go_enter Tryz.func94, Tryz.ntmps94
  go_wp2
  go_ret
  exact ⟨rfl, rfl⟩
end Go.Proofs.YtjjjfmnhdnajkaaGreatDoor

end
section
set_option maxRecDepth 20000
namespace Go.Proofs.YtjjjfmnhdnajkaaGreatDoor
open Go.RowKit

set_option maxHeartbeats 400000 in
theorem rleft_any (b : Nat) (s : ByteArray) (pos : Nat) (w : World) (h : Rd w b s pos) :
    Calls Tryz.prog 147 #[.pointer (some ⟨b, 0, none⟩)] w fun e w' => e = .returned (.int .i64 (8 * (s.size : Int) - (pos : Int))) ∧ ∃ n, w' = w.drewN n := by
  have hp := h.hp
  have hs := h.hs
  have h1 := h.le
  have h2 := h.sz
  clear h
  go_enter Tryz.func147, Tryz.ntmps147
  go_wp2
  go_quiet (fail)
  go_wp2
  go_ret
  exact ⟨rfl, _, rfl⟩

set_option maxHeartbeats 1000000 in
theorem ru_yes (b : Nat) (s : ByteArray) (pos n : Nat) (w : World) (h : Rd w b s pos) (hn : n ≤ 64) (hle : pos + n ≤ 8 * s.size) :
    Calls Tryz.prog 123 #[.pointer (some ⟨b, 0, none⟩), .int .i64 n] w fun e w' => e = .returned (.tuple #[.int .u64 (valOf s pos n), .int .i64 0]) ∧ Rd w' b s (pos + n) ∧ Only [b] w w' := by
  have H := hid h
  have h2 := h.sz
  clear h
  go_enter Tryz.func123, Tryz.ntmps123
  go_wp2_with (go_at_call 147; refine (rleft_any b s pos _ H.out).mono ?_; rintro e w1 ⟨rfl, n1, rfl⟩)
  go_loopg [6, 7] n (fun g v i wr => ∃ j : Nat, j + g = n ∧ i = .int .i64 j ∧ v = .int .u64 (valOf s pos j) ∧ Rd wr b s (pos + j) ∧ Only [b] w wr)
  case atStart => exact ⟨0, by omega, rfl, rfl, H.out.drewN n1, (Only.refl _ _).drewN _⟩
  case round =>
    obtain ⟨j, hj, rfl, rfl, hR, hO⟩ := hrel
    have hv : valOf s pos j < 2 ^ j := valOf_lt s pos j
    obtain ⟨v, ev⟩ : ∃ v, v = valOf s pos j := ⟨_, rfl⟩
    obtain ⟨q, hq⟩ : ∃ q, q = pos + j := ⟨_, rfl⟩
    rw [← hq] at hR
    rw [← ev] at hv ⊢
    have EV := hid ev
    have Q := hid hq
    have J := hid hj
    have O := hid hO
    have R := hid hR
    have q2 : q + gk ≤ 8 * s.size := by omega
    have q3 : j ≤ 64 := by omega
    have hp := hR.hp
    have hs := hR.hs
    have hf := hR.hf
    have hjn : j + gk = n := hj
    clear ev hq hj hO hR
    by_cases h0 : gk = 0
    · subst h0
      obtain rfl : j = n := by omega
      clear hjn
      go_wp2
      go_ret2
      rw [EV.out, ← Q.out]
      exact ⟨rfl, R.out, O.out⟩
    · have h0' : (j : Int) < (n : Int) := by omega
      have i1 : (0 : Int) ≤ (q : Int) / 8 := by omega
      have i2 : (q : Int) / 8 < (s.size : Int) := by omega
      clear hjn
      go_wp2
      go_quiet (fail)
      go_wp2
      go_roundg (gk - 1)
      case measure => omega
      case rel =>
        refine ⟨j + 1, by have := J.out; omega, by go_num, ?_, ?_, ?_⟩
        · rw [bit_more s q v j hv (by have := J.out; omega) (by omega)]
          simp only [valOf]
          rw [← EV.out, ← Q.out]
        · have := (R.out.set (q + 1) (by omega))
          rw [Int.natCast_add] at this
          rw [← Nat.add_assoc, ← Q.out]
          exact ⟨this.hs, this.hp, this.hf, this.le, this.sz⟩
        · exact (O.out.drewN _).setCell (.inl (by simp)) _

set_option maxHeartbeats 400000 in
theorem ru_range (b : Nat) (n : Int) (w : World) (h : n < 0 ∨ 64 < n) :
    Calls Tryz.prog 123 #[.pointer (some ⟨b, 0, none⟩), .int .i64 n] w fun e w' => e = .returned (.tuple #[.int .u64 0, .int .i64 3]) ∧ w = w' := by
  rcases h with h | h
  · go_enter Tryz.func123, Tryz.ntmps123
    go_wp2
    go_ret2
    exact ⟨rfl, rfl⟩
  · have h' : 0 ≤ n := by omega
    go_enter Tryz.func123, Tryz.ntmps123
    go_wp2
    go_ret2
    exact ⟨rfl, rfl⟩

set_option maxHeartbeats 400000 in
theorem ru_short (b : Nat) (s : ByteArray) (pos : Nat) (n : Int) (w : World) (h : Rd w b s pos) (h1 : 0 ≤ n) (h2 : n ≤ 64) (h3 : 8 * (s.size : Int) - pos < n) :
    Calls Tryz.prog 123 #[.pointer (some ⟨b, 0, none⟩), .int .i64 n] w fun e w' => e = .returned (.tuple #[.int .u64 0, .int .i64 5]) ∧ ∃ k, w' = w.drewN k := by
  go_enter Tryz.func123, Tryz.ntmps123
  go_wp2_with (go_at_call 147; refine (rleft_any b s pos _ h).mono ?_; rintro e w1 ⟨rfl, n1, rfl⟩)
  go_ret2
  exact ⟨rfl, _, rfl⟩

/-- U of a reader, for any n. -/
theorem ru_any (b : Nat) (s : ByteArray) (pos : Nat) (n : Int) (w : World) (h : Rd w b s pos) :
    Calls Tryz.prog 123 #[.pointer (some ⟨b, 0, none⟩), .int .i64 n] w fun e w' => e = .returned (.tuple #[.int .u64 (rdU s pos n).1, .int .i64 (rdU s pos n).2.1]) ∧ Rd w' b s (rdU s pos n).2.2 ∧ Only [b] w w' := by
  unfold rdU
  by_cases h1 : n < 0 ∨ 64 < n
  · rw [if_pos h1]
    exact (ru_range b n w h1).mono fun e w' ⟨he, hw⟩ => ⟨he, hw ▸ h, hw ▸ Only.refl _ _⟩
  · rw [if_neg h1]
    by_cases h2 : 8 * s.size < pos + n.toNat
    · rw [if_pos h2]
      refine (ru_short b s pos n w h (by omega) (by omega) (by omega)).mono fun e w' ⟨he, k, hw⟩ => ⟨he, hw ▸ h.drewN k, hw ▸ (Only.refl _ _).drewN k⟩
    · rw [if_neg h2]
      obtain ⟨j, rfl⟩ := Int.eq_ofNat_of_zero_le (show 0 ≤ n by omega)
      exact ru_yes b s pos j w h (by omega) (by simp at h2; omega)

set_option maxHeartbeats 400000 in
theorem ru_nil (n : Int) (w : World) :
    Calls Tryz.prog 123 #[.pointer none, .int .i64 n] w fun e w' => e = .returned (.tuple #[.int .u64 0, .int .i64 1]) ∧ w = w' := by
  go_enter Tryz.func123, Tryz.ntmps123
  go_wp2
  go_ret2
  exact ⟨rfl, rfl⟩

set_option maxHeartbeats 400000 in
theorem rbit_any (b : Nat) (s : ByteArray) (pos : Nat) (w : World) (h : Rd w b s pos) :
    Calls Tryz.prog 145 #[.pointer (some ⟨b, 0, none⟩)] w fun e w' => e = .returned (.tuple #[.int .u8 (rdU s pos 1).1, .int .i64 (rdU s pos 1).2.1]) ∧ Rd w' b s (rdU s pos 1).2.2 ∧ Only [b] w w' := by
  have C := ru_any b s pos 1 w h
  have hb := rdU_lt s pos 1
  generalize rdU s pos 1 = r at *
  obtain ⟨x, y, z⟩ := r
  have hx : x < 2 := hb
  clear hb
  go_enter Tryz.func145, Tryz.ntmps145
  go_wp2_with (go_at_call 123; refine C.mono ?_; rintro e w1 ⟨rfl, hR, hO⟩)
  go_ret2
  exact ⟨rfl, hR, hO⟩

set_option maxHeartbeats 400000 in
theorem rbit_nil (w : World) :
    Calls Tryz.prog 145 #[.pointer none] w fun e w' => e = .returned (.tuple #[.int .u8 0, .int .i64 1]) ∧ w = w' := by
  go_enter Tryz.func145, Tryz.ntmps145
  go_wp2_with (go_at_call 123; refine (ru_nil 1 _).mono ?_; rintro e w1 ⟨rfl, rfl⟩)
  go_ret2
  exact ⟨rfl, rfl⟩

set_option maxHeartbeats 400000 in
theorem rleft_nil (w : World) : Calls Tryz.prog 147 #[.pointer none] w fun e w' => e = .returned (.int .i64 0) ∧ w = w' := by
  go_enter Tryz.func147, Tryz.ntmps147
  go_wp2
  go_ret
  exact ⟨rfl, rfl⟩
end Go.Proofs.YtjjjfmnhdnajkaaGreatDoor


end
section
set_option maxRecDepth 20000
namespace Go.Proofs.YtjjjfmnhdnajkaaGreatDoor
open Go.RowKit

set_option maxHeartbeats 400000 in
theorem rcopy_any (b : Nat) (s : ByteArray) (pos : Nat) (w : World) (h : Rd w b s pos) :
    Calls Tryz.prog 83 #[.pointer (some ⟨b, 0, none⟩)] w fun e w' => e = .returned (.pointer (some ⟨w.heap.size, 0, none⟩)) ∧ Rd w' w.heap.size s pos ∧ Only [] w w' := by
  have hp := h.hp
  have hs := h.hs
  have h1 := h.le
  have h2 := h.sz
  clear h
  go_enter Tryz.func83, Tryz.ntmps83
  go_wp2
  go_region
  all_goals
    go_wp2
    go_ret
    exact ⟨rfl, ⟨by simp, by simp, by simp, h1, h2⟩, ((Only.refl _ _).drew).alloc _⟩

set_option maxHeartbeats 400000 in
theorem rcopy_nil (w : World) : Calls Tryz.prog 83 #[.pointer none] w fun e w' => e = .returned (.pointer none) ∧ w = w' := by
  go_enter Tryz.func83, Tryz.ntmps83
  go_wp2
  go_ret
  exact ⟨rfl, rfl⟩
end Go.Proofs.YtjjjfmnhdnajkaaGreatDoor

end
